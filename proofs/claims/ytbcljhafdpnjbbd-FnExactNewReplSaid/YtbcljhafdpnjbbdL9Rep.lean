/-
  Contracts of the laws' own helpers over a world of logs: laws.szRepl weighs it, laws.toRepl copies it, laws.eqRepl says that two alike are alike.
-/
import Derived.Test.YtbcljhafdpnjbbdL9Good
import Derived.Test.YtbcljhafdpnjbbdL9Bool
import Derived.Test.YtbcljhafdpnjbbdL9LgLists
import Derived.Test.YtbcljhafdpnjbbdL1Lists
import Derived.Deep.DeepCutAuto
namespace Go.Proofs.Ytbcljhafdpnjbbd.L9
open Go.RowKit L1 L7
set_option linter.unusedVariables false

/-- A world of logs with who is down. -/
structure RpF (w : World) (ag ad ay ac : Option Addr) (G : List (List En)) (dn : List Bool) (sy : List Int) (ce : List En) : Prop where
  s : RpS w ag ay ac G sy ce
  d : SlB w ad dn
theorem RpF.below {w w' : World} {ag ad ay ac : Option Addr} {G : List (List En)} {dn : List Bool} {sy : List Int} {ce : List En} (h : RpF w ag ad ay ac G dn sy ce) (hb : Below w.heap.size w w') : RpF w' ag ad ay ac G dn sy ce := ⟨h.s.below hb, h.d.below hb⟩
/-- The block of one that came in. -/
abbrev rpL (ag : Option Addr) (n cg : Nat) (ad : Option Addr) (nd cd : Nat) (ld ep : Int) (ay : Option Addr) (ny cy : Nat) (ac : Option Addr) (nc cc : Nat) : Obj := .cells #[.slice ag n cg, .slice ad nd cd, .int .i64 ld, .int .i64 ep, .slice ay ny cy, .slice ac nc cc] 41 (0, 0)
theorem cell_set9 {w : World} {p q : Addr} {v : Value} (h : q.block ≠ p.block) : (w.setCell p v).cell? q = w.cell? q := by
  have := Below.heap_setCell w p v q.block h
  simp only [World.cell?, this]
theorem own_set9 {w : World} {base n c : Nat} {t : TypeId} {v : Value} {ys : List Value} (h : w.ownsRow base t c v n ys) (p : Addr) (u : Value) (hp : p.block < base) : (w.setCell p u).ownsRow base t c v n ys := by
  refine ⟨h.1, ?_⟩
  rcases h.2 with h0 | ⟨g, cap, cur, rfl, hbg, hg, r⟩
  · exact .inl h0
  · exact .inr ⟨g, cap, cur, rfl, hbg, by rw [Below.heap_setCell _ _ _ _ (by omega)]; exact hg, r⟩
theorem OwnG.setC {w : World} {B : Nat} {ls : List (List En)} {g : Nat → Nat} {m : Nat} (h : OwnG w B ls g m) (p : Addr) (u : Value) (hp : p.block < B) : OwnG (w.setCell p u) B ls g m :=
  ⟨fun i hi => (cell_set9 (by show B ≠ p.block; omega)).trans (h.cell i hi), fun i hi => own_set9 (h.own i hi) p u (by omega), h.rise, fun i hi => by simp; exact h.lt i hi⟩
/-- What a world of logs weighs. -/
def wtR (G : List (List En)) (nd ny : Nat) (ce : List En) : Nat := wtG G + nd + ny + wt ce
set_option maxRecDepth 100000 in
set_option maxHeartbeats 2000000 in
theorem szRepl_any (ag : Option Addr) (n cg : Nat) (ad : Option Addr) (nd cd : Nat) (ld ep : Int) (ay : Option Addr) (ny cy : Nat) (ac : Option Addr) (nc cc : Nat) (G : List (List En)) (ce : List En) (w : World) (hn : G.length = n) (hc : ce.length = nc) (mn : n ≤ 9223372036854775807) (md : nd ≤ 9223372036854775807) (my : ny ≤ 9223372036854775807) (mc : nc ≤ 9223372036854775807) (hg : SlG w ag G) (hce : SlE w ac ce) (htx : TxG G) (htc : TxE ce) (L : Int) (h0 : 0 ≤ L) (h1 : L ≤ 1048576) (r : Int) (hr : r = if (wtR G nd ny ce : Int) ≤ L then L - (wtR G nd ny ce : Int) else -1) :
    Calls Try.prog 18 #[rpV ag n cg ad nd cd ld ep ay ny cy ac nc cc, .int .i64 L] w fun e w' => e = .returned (.int .i64 r) ∧ Below w.heap.size w w' := by
  obtain ⟨q, hq⟩ : ∃ q, q = wtG G := ⟨_, rfl⟩
  obtain ⟨c, hcw⟩ : ∃ c, c = wt ce := ⟨_, rfl⟩
  have hw : wtR G nd ny ce = q + nd + ny + c := by unfold wtR; rw [hq, hcw]
  rw [hw] at hr
  have BX := hide ((Below.refl w.heap.size w).alloc (Nat.le_refl _) (rpL ag n cg ad nd cd ld ep ay ny cy ac nc cc))
  have C1 := hide (fun wx (hb : Below w.heap.size w wx) r hr => szEntrySS_any ag G n cg L wx hn mn (hg.below hb) htx h0 h1 r hr)
  have C4 := hide (fun wx (hb : Below w.heap.size w wx) L' h0 h1 r hr => szEntryS_any ac ce nc cc L' wx hc mc (hce.below hb) htc h0 h1 r hr)
  rw [← hq] at C1
  rw [← hcw] at C4
  have HR := hide hr
  clear hr hn hc hg hce htx htc hw hq hcw
  by_cases f1 : (q : Int) ≤ L
  · obtain ⟨L1, hL1⟩ : ∃ L1, L1 = L - (q : Int) := ⟨_, rfl⟩
    have K1 := hide (fun wx hb => C1.out wx hb L1 (by rw [if_pos f1, hL1]))
    have n1 : ¬ L1 < 0 := by omega
    by_cases f2 : (nd : Int) ≤ L1
    · obtain ⟨L2, hL2⟩ : ∃ L2, L2 = L1 - (nd : Int) := ⟨_, rfl⟩
      have K2 := hide (fun wx => szBoolS_any ad nd cd L1 wx md (by omega) (by omega) L2 (by rw [if_pos f2, hL2]))
      have n2 : ¬ L2 < 0 := by omega
      by_cases f3 : (ny : Int) ≤ L2
      · obtain ⟨L3, hL3⟩ : ∃ L3, L3 = L2 - (ny : Int) := ⟨_, rfl⟩
        have K3 := hide (fun wx => szIntS_any ay ny cy L2 wx my (by omega) (by omega) L3 (by rw [if_pos f3, hL3]))
        have n3 : ¬ L3 < 0 := by omega
        by_cases f4 : (c : Int) ≤ L3
        · obtain ⟨L4, hL4⟩ : ∃ L4, L4 = L3 - (c : Int) := ⟨_, rfl⟩
          have K4 := hide (fun wx hb => C4.out wx hb L3 (by omega) (by omega) L4 (by rw [if_pos f4, hL4]))
          have n4 : ¬ L4 < 0 := by omega
          have E : Hid (r = L4) := by show r = L4; rw [HR.out, if_pos (by omega)]; omega
          clear hL1 hL2 hL3 hL4 C1 C4 f1 f2 f3 f4
          go_enter Try.func18, Try.ntmps18
          go_wp2_with fail
          refine (K1.out _ BX.out).mono ?_
          rintro e w1 ⟨rfl, hb⟩
          have G1 := hide ((hb.block w.heap.size (by simp)).trans (blk_new9 _ _))
          have B1 := hide (BX.out.trans (hb.mono BX.out.size))
          obtain ⟨k0, k1, k2, k3, k4, k5⟩ := blk6 G1.out
          clear hb
          go_wp2_with fail
          refine (K2.out _).mono ?_
          rintro e w2 ⟨rfl, rfl⟩
          go_wp2_with fail
          refine (K3.out _).mono ?_
          rintro e w3 ⟨rfl, rfl⟩
          go_wp2_with fail
          refine (K4.out _ B1.out).mono ?_
          rintro e w4 ⟨rfl, hb⟩
          have B4 := hide (B1.out.trans (hb.mono B1.out.size))
          clear hb
          go_wp2
          go_ret
          exact ⟨by rw [E.out]; rfl, B4.out⟩
        · have K4 := hide (fun wx hb => C4.out wx hb L3 (by omega) (by omega) (-1) (by rw [if_neg f4]))
          have E : Hid (r = -1) := by show r = -1; rw [HR.out, if_neg (by omega)]
          clear hL1 hL2 hL3 C1 C4 f1 f2 f3 f4
          go_enter Try.func18, Try.ntmps18
          go_wp2_with fail
          refine (K1.out _ BX.out).mono ?_
          rintro e w1 ⟨rfl, hb⟩
          have G1 := hide ((hb.block w.heap.size (by simp)).trans (blk_new9 _ _))
          have B1 := hide (BX.out.trans (hb.mono BX.out.size))
          obtain ⟨k0, k1, k2, k3, k4, k5⟩ := blk6 G1.out
          clear hb
          go_wp2_with fail
          refine (K2.out _).mono ?_
          rintro e w2 ⟨rfl, rfl⟩
          go_wp2_with fail
          refine (K3.out _).mono ?_
          rintro e w3 ⟨rfl, rfl⟩
          go_wp2_with fail
          refine (K4.out _ B1.out).mono ?_
          rintro e w4 ⟨rfl, hb⟩
          have B4 := hide (B1.out.trans (hb.mono B1.out.size))
          clear hb
          go_wp2
          go_ret
          exact ⟨by rw [E.out]; rfl, B4.out⟩
      · have K3 := hide (fun wx => szIntS_any ay ny cy L2 wx my (by omega) (by omega) (-1) (by rw [if_neg f3]))
        have E : Hid (r = -1) := by show r = -1; rw [HR.out, if_neg (by omega)]
        clear hL1 hL2 C1 C4 f1 f2 f3
        go_enter Try.func18, Try.ntmps18
        go_wp2_with fail
        refine (K1.out _ BX.out).mono ?_
        rintro e w1 ⟨rfl, hb⟩
        have G1 := hide ((hb.block w.heap.size (by simp)).trans (blk_new9 _ _))
        have B1 := hide (BX.out.trans (hb.mono BX.out.size))
        obtain ⟨k0, k1, k2, k3, k4, k5⟩ := blk6 G1.out
        clear hb
        go_wp2_with fail
        refine (K2.out _).mono ?_
        rintro e w2 ⟨rfl, rfl⟩
        go_wp2_with fail
        refine (K3.out _).mono ?_
        rintro e w3 ⟨rfl, rfl⟩
        go_wp2
        go_ret
        exact ⟨by rw [E.out]; rfl, B1.out⟩
    · have K2 := hide (fun wx => szBoolS_any ad nd cd L1 wx md (by omega) (by omega) (-1) (by rw [if_neg f2]))
      have E : Hid (r = -1) := by show r = -1; rw [HR.out, if_neg (by omega)]
      clear hL1 C1 C4 f1 f2
      go_enter Try.func18, Try.ntmps18
      go_wp2_with fail
      refine (K1.out _ BX.out).mono ?_
      rintro e w1 ⟨rfl, hb⟩
      have G1 := hide ((hb.block w.heap.size (by simp)).trans (blk_new9 _ _))
      have B1 := hide (BX.out.trans (hb.mono BX.out.size))
      obtain ⟨k0, k1, k2, k3, k4, k5⟩ := blk6 G1.out
      clear hb
      go_wp2_with fail
      refine (K2.out _).mono ?_
      rintro e w2 ⟨rfl, rfl⟩
      go_wp2
      go_ret
      exact ⟨by rw [E.out]; rfl, B1.out⟩
  · have K1 := hide (fun wx hb => C1.out wx hb (-1) (by rw [if_neg f1]))
    have E : Hid (r = -1) := by show r = -1; rw [HR.out, if_neg (by omega)]
    clear C1 C4 f1
    go_enter Try.func18, Try.ntmps18
    go_wp2_with fail
    refine (K1.out _ BX.out).mono ?_
    rintro e w1 ⟨rfl, hb⟩
    have G1 := hide ((hb.block w.heap.size (by simp)).trans (blk_new9 _ _))
    have B1 := hide (BX.out.trans (hb.mono BX.out.size))
    obtain ⟨k0, k1, k2, k3, k4, k5⟩ := blk6 G1.out
    clear hb
    go_wp2
    go_ret
    exact ⟨by rw [E.out]; rfl, B1.out⟩
set_option maxRecDepth 100000 in
set_option maxHeartbeats 2000000 in
theorem eqRepl_same (ag : Option Addr) (cg : Nat) (ad : Option Addr) (cd : Nat) (ay : Option Addr) (cy : Nat) (ac : Option Addr) (cc : Nat) (bg : Option Addr) (eg : Nat) (bd : Option Addr) (ed : Nat) (b_ : Option Addr) (ey : Nat) (bc : Option Addr) (ec : Nat) (n nd ny nc : Nat) (ld ep : Int) (G : List (List En)) (dn : List Bool) (sy : List Int) (ce : List En) (w : World) (hz : RpZ G sy ce n nd ny nc) (hd : dn.length = nd) (h1 : RpF w ag ad ay ac G dn sy ce) (h2 : RpF w bg bd b_ bc G dn sy ce) :
    Calls Try.prog 15 #[rpV ag n cg ad nd cd ld ep ay ny cy ac nc cc, rpV bg n eg bd nd ed ld ep b_ ny ey bc nc ec] w fun e w' => e = .returned (.bool true) ∧ Below w.heap.size w w' := by
  obtain ⟨hn, hy, hc, n2, d2, y2, c2, hls, htx⟩ := hz
  obtain ⟨W0, hW0⟩ : ∃ W0, (w.alloc (rpO ag n cg ad nd cd ld ep ay ny cy ac nc cc)).alloc (rpO bg n eg bd nd ed ld ep b_ ny ey bc nc ec) = W0 := ⟨_, rfl⟩
  have BX : Hid (Below w.heap.size w W0) := by rw [← hW0]; exact hide (((Below.refl _ _).alloc (Nat.le_refl _) _).alloc (by simp) _)
  have G0 : Hid (W0.heap[w.heap.size]? = some (rpO ag n cg ad nd cd ld ep ay ny cy ac nc cc)) := by
    rw [← hW0]
    exact hide ((((Below.refl (w.alloc (rpO ag n cg ad nd cd ld ep ay ny cy ac nc cc)).heap.size _).alloc (Nat.le_refl _) _).block w.heap.size (by simp)).trans (blk_new9 _ _))
  have H0 : Hid (W0.heap[w.heap.size + 1]? = some (rpO bg n eg bd nd ed ld ep b_ ny ey bc nc ec)) := by
    rw [← hW0]
    have := blk_new9 (w.alloc (rpO ag n cg ad nd cd ld ep ay ny cy ac nc cc)) (rpO bg n eg bd nd ed ld ep b_ ny ey bc nc ec)
    rw [World.size_alloc] at this
    exact hide this
  have C1 := hide (fun wx (hb : Below w.heap.size w wx) => eqEntrySS_same ag bg G n cg eg wx hn (h1.s.g.below hb) (h2.s.g.below hb) n2 hls)
  have C2 := hide (fun wx (hb : Below w.heap.size w wx) => eqBoolS_same ad bd dn nd cd ed wx hd (h1.d.below hb) (h2.d.below hb) d2)
  have C3 := hide (fun wx (hb : Below w.heap.size w wx) => eqIntS_same ay b_ sy ny cy ey wx hy (h1.s.y.below hb) (h2.s.y.below hb) y2)
  have C4 := hide (fun wx (hb : Below w.heap.size w wx) => eqEntryS_same ac bc ce nc cc ec wx hc (h1.s.c.below hb) (h2.s.c.below hb) c2)
  have HW := hide hW0
  clear hW0 h1 h2 hn hy hc hls htx hd
  obtain ⟨k0, k1, k2, k3, k4, k5⟩ := blk6 G0.out
  obtain ⟨j0, j1, j2, j3, j4, j5⟩ := blk6 H0.out
  go_enter Try.func15, Try.ntmps15
  go_upto_region 1 with fail
  rw [HW.out]
  clear HW
  go_wp2_with fail
  refine (C1.out _ BX.out).mono ?_
  rintro e w1 ⟨rfl, hb⟩
  have B1 := hide (BX.out.trans (hb.mono BX.out.size))
  have G1 := hide ((hb.block w.heap.size (Array.getElem?_eq_some_iff.1 G0.out).1).trans G0.out)
  have H1 := hide ((hb.block (w.heap.size + 1) (Array.getElem?_eq_some_iff.1 H0.out).1).trans H0.out)
  clear hb k0 k1 k2 k3 k4 k5 j0 j1 j2 j3 j4 j5
  obtain ⟨k0, k1, k2, k3, k4, k5⟩ := blk6 G1.out
  obtain ⟨j0, j1, j2, j3, j4, j5⟩ := blk6 H1.out
  go_wp2_with fail
  refine (C2.out _ B1.out).mono ?_
  rintro e w2 ⟨rfl, hb⟩
  have B2 := hide (B1.out.trans (hb.mono B1.out.size))
  have G2 := hide ((hb.block w.heap.size (Array.getElem?_eq_some_iff.1 G1.out).1).trans G1.out)
  have H2 := hide ((hb.block (w.heap.size + 1) (Array.getElem?_eq_some_iff.1 H1.out).1).trans H1.out)
  clear hb k0 k1 k2 k3 k4 k5 j0 j1 j2 j3 j4 j5
  obtain ⟨k0, k1, k2, k3, k4, k5⟩ := blk6 G2.out
  obtain ⟨j0, j1, j2, j3, j4, j5⟩ := blk6 H2.out
  go_wp2_with fail
  refine (C3.out _ B2.out).mono ?_
  rintro e w3 ⟨rfl, hb⟩
  have B3 := hide (B2.out.trans (hb.mono B2.out.size))
  have G3 := hide ((hb.block w.heap.size (Array.getElem?_eq_some_iff.1 G2.out).1).trans G2.out)
  have H3 := hide ((hb.block (w.heap.size + 1) (Array.getElem?_eq_some_iff.1 H2.out).1).trans H2.out)
  clear hb k0 k1 k2 k3 k4 k5 j0 j1 j2 j3 j4 j5
  obtain ⟨k0, k1, k2, k3, k4, k5⟩ := blk6 G3.out
  obtain ⟨j0, j1, j2, j3, j4, j5⟩ := blk6 H3.out
  go_wp2_with fail
  refine (C4.out _ B3.out).mono ?_
  rintro e w4 ⟨rfl, hb⟩
  have B4 := hide (B3.out.trans (hb.mono B3.out.size))
  have G4 := hide ((hb.block w.heap.size (Array.getElem?_eq_some_iff.1 G3.out).1).trans G3.out)
  have H4 := hide ((hb.block (w.heap.size + 1) (Array.getElem?_eq_some_iff.1 H3.out).1).trans H3.out)
  clear hb k0 k1 k2 k3 k4 k5 j0 j1 j2 j3 j4 j5
  obtain ⟨k0, k1, k2, k3, k4, k5⟩ := blk6 G4.out
  obtain ⟨j0, j1, j2, j3, j4, j5⟩ := blk6 H4.out
  go_wp2
  go_ret
  exact ⟨rfl, B4.out⟩
set_option maxRecDepth 100000 in
set_option maxHeartbeats 4000000 in
theorem toRepl_any (ag : Option Addr) (n cg : Nat) (ad : Option Addr) (nd cd : Nat) (ld ep : Int) (ay : Option Addr) (ny cy : Nat) (ac : Option Addr) (nc cc : Nat) (G : List (List En)) (dn : List Bool) (sy : List Int) (ce : List En) (w : World) (hz : RpZ G sy ce n nd ny nc) (hd : dn.length = nd) (h1 : RpF w ag ad ay ac G dn sy ce) :
    Calls Try.prog 20 #[rpV ag n cg ad nd cd ld ep ay ny cy ac nc cc] w fun e w' => ∃ a0 a1 a2 a3, e = .returned (rpV a0 n n a1 nd nd ld ep a2 ny ny a3 nc nc) ∧ RpF w' a0 a1 a2 a3 G dn sy ce ∧ Below w.heap.size w w' := by
  obtain ⟨hn, hy, hc, n2, d2, y2, c2, hls, htx⟩ := hz
  obtain ⟨W0, hW0⟩ : ∃ W0, ((w.alloc (rpL ag n cg ad nd cd ld ep ay ny cy ac nc cc)).alloc (.cells #[.slice none 0 0, .slice none 0 0, .int .i64 0, .int .i64 0, .slice none 0 0, .slice none 0 0] 32 (0, 0))).alloc (.cells #[.slice none 0 0, .slice none 0 0, .int .i64 0, .int .i64 0, .slice none 0 0, .slice none 0 0] 32 (0, 0)) = W0 := ⟨_, rfl⟩
  have hs0 : W0.heap.size = w.heap.size + 3 := by rw [← hW0]; simp
  have BX : Hid (Below w.heap.size w W0) := by rw [← hW0]; exact hide ((((Below.refl _ _).alloc (Nat.le_refl _) _).alloc (by simp) _).alloc (by simp; omega) _)
  have I0 : Hid (W0.heap[w.heap.size]? = some (rpL ag n cg ad nd cd ld ep ay ny cy ac nc cc)) := by
    rw [← hW0]
    have hb := ((Below.refl (w.alloc (rpL ag n cg ad nd cd ld ep ay ny cy ac nc cc)).heap.size (w.alloc (rpL ag n cg ad nd cd ld ep ay ny cy ac nc cc))).alloc (Nat.le_refl _) (.cells #[.slice none 0 0, .slice none 0 0, .int .i64 0, .int .i64 0, .slice none 0 0, .slice none 0 0] 32 (0, 0))).alloc (by simp) (.cells #[.slice none 0 0, .slice none 0 0, .int .i64 0, .int .i64 0, .slice none 0 0, .slice none 0 0] 32 (0, 0))
    exact hide ((hb.block w.heap.size (by simp)).trans (blk_new9 _ _))
  have R0 : Hid (W0.heap[w.heap.size + 1]? = some (.cells #[.slice none 0 0, .slice none 0 0, .int .i64 0, .int .i64 0, .slice none 0 0, .slice none 0 0] 32 (0, 0))) := by
    rw [← hW0]
    have hb := (Below.refl ((w.alloc (rpL ag n cg ad nd cd ld ep ay ny cy ac nc cc)).alloc (.cells #[.slice none 0 0, .slice none 0 0, .int .i64 0, .int .i64 0, .slice none 0 0, .slice none 0 0] 32 (0, 0))).heap.size _).alloc (Nat.le_refl _) (.cells #[.slice none 0 0, .slice none 0 0, .int .i64 0, .int .i64 0, .slice none 0 0, .slice none 0 0] 32 (0, 0))
    have h2 := blk_new9 (w.alloc (rpL ag n cg ad nd cd ld ep ay ny cy ac nc cc)) (.cells #[.slice none 0 0, .slice none 0 0, .int .i64 0, .int .i64 0, .slice none 0 0, .slice none 0 0] 32 (0, 0))
    rw [World.size_alloc] at h2
    exact hide ((hb.block (w.heap.size + 1) (by simp)).trans h2)
  have O0 : Hid (W0.heap[w.heap.size + 2]? = some (.cells #[.slice none 0 0, .slice none 0 0, .int .i64 0, .int .i64 0, .slice none 0 0, .slice none 0 0] 32 (0, 0))) := by
    rw [← hW0]
    have h2 := blk_new9 ((w.alloc (rpL ag n cg ad nd cd ld ep ay ny cy ac nc cc)).alloc (.cells #[.slice none 0 0, .slice none 0 0, .int .i64 0, .int .i64 0, .slice none 0 0, .slice none 0 0] 32 (0, 0))) (.cells #[.slice none 0 0, .slice none 0 0, .int .i64 0, .int .i64 0, .slice none 0 0, .slice none 0 0] 32 (0, 0))
    rw [World.size_alloc, World.size_alloc] at h2
    exact hide h2
  have C1 := hide (fun wx (hb : Below w.heap.size w wx) => toEntrySS_any ag G n cg wx hn (h1.s.g.below hb) n2 hls)
  have C2 := hide (fun wx (hb : Below w.heap.size w wx) => toBoolS_any ad dn nd cd wx hd (h1.d.below hb) d2)
  have C3 := hide (fun wx (hb : Below w.heap.size w wx) => toIntS_any ay sy ny cy wx hy (h1.s.y.below hb) y2)
  have C4 := hide (fun wx (hb : Below w.heap.size w wx) => toEntryS_any ac ce nc cc wx hc (h1.s.c.below hb) c2)
  have HW := hide hW0
  have HN := hide hn
  have HZ := hide hs0
  clear hW0 h1 hn hy hc hls htx hd hs0
  obtain ⟨k0, k1, k2, k3, k4, k5⟩ := blk6 I0.out
  go_enter Try.func20, Try.ntmps20
  go_upto_region 2 with fail
  rw [HW.out]
  clear HW
  go_wp2_with fail
  refine (C1.out _ BX.out).mono ?_
  rintro e w1 ⟨rfl, ⟨g, ho1⟩, _, hb⟩
  have zb1 := hb.size
  have Bx1 := hide (BX.out.trans (hb.mono BX.out.size))
  have Ix1 := hide ((hb.block w.heap.size (Array.getElem?_eq_some_iff.1 I0.out).1).trans I0.out)
  have Rx1 := hide ((hb.block (w.heap.size + 1) (Array.getElem?_eq_some_iff.1 R0.out).1).trans R0.out)
  have Ox1 := hide ((hb.block (w.heap.size + 2) (Array.getElem?_eq_some_iff.1 O0.out).1).trans O0.out)
  have x1 := hide ho1
  clear hb ho1 k0 k1 k2 k3 k4 k5
  obtain ⟨k0, k1, k2, k3, k4, k5⟩ := blk6 Ix1.out
  have u0 := Ox1.out
  obtain ⟨y0, y1, y2_, y3, y4, y5⟩ := blk6 u0
  have yf : ∀ i, w1.frozen? ⟨w.heap.size + 2, i, none⟩ = false := fun i => by simp [World.frozen?, u0]
  clear u0
  go_upto_region 3 with fail
  obtain ⟨W1, hW1⟩ : ∃ W1, (w1).setCell ⟨w.heap.size + 2, 0, none⟩ (.slice (some ⟨W0.heap.size, 0, none⟩) n n) = W1 := ⟨_, rfl⟩
  have B1 : Hid (Below w.heap.size w W1) := by rw [← hW1]; exact hide (Bx1.out.setCell (p := ⟨w.heap.size + 2, 0, none⟩) (by show w.heap.size ≤ w.heap.size + 2; omega) _)
  have I1 : Hid (W1.heap[w.heap.size]? = some (rpL ag n cg ad nd cd ld ep ay ny cy ac nc cc)) := by rw [← hW1]; exact hide ((Below.heap_setCell _ _ _ _ (show w.heap.size ≠ w.heap.size + 2 by omega)).trans Ix1.out)
  have R1 : Hid (W1.heap[w.heap.size + 1]? = some (.cells #[.slice none 0 0, .slice none 0 0, .int .i64 0, .int .i64 0, .slice none 0 0, .slice none 0 0] 32 (0, 0))) := by rw [← hW1]; exact hide ((Below.heap_setCell _ _ _ _ (show w.heap.size + 1 ≠ w.heap.size + 2 by omega)).trans Rx1.out)
  have O1 : Hid (W1.heap[w.heap.size + 2]? = some (.cells #[.slice (some ⟨W0.heap.size, 0, none⟩) n n, .slice none 0 0, .int .i64 0, .int .i64 0, .slice none 0 0, .slice none 0 0] 32 (0, 0))) := by rw [← hW1]; exact hide ((heap_setCell_same _ (w.heap.size + 2) 0 _ _ (.slice (some ⟨W0.heap.size, 0, none⟩) n n) Ox1.out).trans rfl)
  have Zs1 : Hid (W0.heap.size ≤ W1.heap.size) := by rw [← hW1]; exact hide (by simp; exact zb1)
  have A1_1 : Hid (OwnG W1 W0.heap.size G g n) := by rw [← hW1]; exact hide (x1.out.setC ⟨w.heap.size + 2, 0, none⟩ (.slice (some ⟨W0.heap.size, 0, none⟩) n n) (by show w.heap.size + 2 < _; have := HZ.out;  omega))
  rw [hW1]
  clear hW1 Bx1 Ix1 Rx1 Ox1 zb1 y0 y1 y2_ y3 y4 y5 yf x1
  clear k0 k1 k2 k3 k4 k5
  obtain ⟨k0, k1, k2, k3, k4, k5⟩ := blk6 I1.out
  go_wp2_with fail
  refine (C2.out _ B1.out).mono ?_
  rintro e w2 ⟨rfl, ho2, hb⟩
  have zb2 := hb.size
  have Bx2 := hide (B1.out.trans (hb.mono B1.out.size))
  have Ix2 := hide ((hb.block w.heap.size (Array.getElem?_eq_some_iff.1 I1.out).1).trans I1.out)
  have Rx2 := hide ((hb.block (w.heap.size + 1) (Array.getElem?_eq_some_iff.1 R1.out).1).trans R1.out)
  have Ox2 := hide ((hb.block (w.heap.size + 2) (Array.getElem?_eq_some_iff.1 O1.out).1).trans O1.out)
  have x1 := hide (A1_1.out.below hb)
  have x2 := hide ho2
  clear hb ho2 k0 k1 k2 k3 k4 k5
  obtain ⟨k0, k1, k2, k3, k4, k5⟩ := blk6 Ix2.out
  have u0 := Ox2.out
  obtain ⟨y0, y1, y2_, y3, y4, y5⟩ := blk6 u0
  have yf : ∀ i, w2.frozen? ⟨w.heap.size + 2, i, none⟩ = false := fun i => by simp [World.frozen?, u0]
  clear u0
  go_upto_region 6 with fail
  obtain ⟨W2, hW2⟩ : ∃ W2, (((w2).setCell ⟨w.heap.size + 2, 1, none⟩ (.slice (some ⟨W1.heap.size, 0, none⟩) nd nd)).setCell ⟨w.heap.size + 2, 2, none⟩ (.int .i64 ld)).setCell ⟨w.heap.size + 2, 3, none⟩ (.int .i64 ep) = W2 := ⟨_, rfl⟩
  have B2 : Hid (Below w.heap.size w W2) := by rw [← hW2]; exact hide (((Bx2.out.setCell (p := ⟨w.heap.size + 2, 1, none⟩) (by show w.heap.size ≤ w.heap.size + 2; omega) _).setCell (p := ⟨w.heap.size + 2, 2, none⟩) (by show w.heap.size ≤ w.heap.size + 2; omega) _).setCell (p := ⟨w.heap.size + 2, 3, none⟩) (by show w.heap.size ≤ w.heap.size + 2; omega) _)
  have I2 : Hid (W2.heap[w.heap.size]? = some (rpL ag n cg ad nd cd ld ep ay ny cy ac nc cc)) := by rw [← hW2]; exact hide ((Below.heap_setCell _ _ _ _ (show w.heap.size ≠ w.heap.size + 2 by omega)).trans ((Below.heap_setCell _ _ _ _ (show w.heap.size ≠ w.heap.size + 2 by omega)).trans ((Below.heap_setCell _ _ _ _ (show w.heap.size ≠ w.heap.size + 2 by omega)).trans Ix2.out)))
  have R2 : Hid (W2.heap[w.heap.size + 1]? = some (.cells #[.slice none 0 0, .slice none 0 0, .int .i64 0, .int .i64 0, .slice none 0 0, .slice none 0 0] 32 (0, 0))) := by rw [← hW2]; exact hide ((Below.heap_setCell _ _ _ _ (show w.heap.size + 1 ≠ w.heap.size + 2 by omega)).trans ((Below.heap_setCell _ _ _ _ (show w.heap.size + 1 ≠ w.heap.size + 2 by omega)).trans ((Below.heap_setCell _ _ _ _ (show w.heap.size + 1 ≠ w.heap.size + 2 by omega)).trans Rx2.out)))
  have O2 : Hid (W2.heap[w.heap.size + 2]? = some (.cells #[.slice (some ⟨W0.heap.size, 0, none⟩) n n, .slice (some ⟨W1.heap.size, 0, none⟩) nd nd, .int .i64 ld, .int .i64 ep, .slice none 0 0, .slice none 0 0] 32 (0, 0))) := by rw [← hW2]; exact hide ((heap_setCell_same _ (w.heap.size + 2) 3 _ _ (.int .i64 ep) (heap_setCell_same _ (w.heap.size + 2) 2 _ _ (.int .i64 ld) (heap_setCell_same _ (w.heap.size + 2) 1 _ _ (.slice (some ⟨W1.heap.size, 0, none⟩) nd nd) Ox2.out))).trans rfl)
  have Zs2 : Hid (W1.heap.size ≤ W2.heap.size) := by rw [← hW2]; exact hide (by simp; exact zb2)
  have A1_2 : Hid (OwnG W2 W0.heap.size G g n) := by rw [← hW2]; exact hide (((x1.out.setC ⟨w.heap.size + 2, 1, none⟩ (.slice (some ⟨W1.heap.size, 0, none⟩) nd nd) (by show w.heap.size + 2 < _; have := HZ.out; have := Zs1.out; omega)).setC ⟨w.heap.size + 2, 2, none⟩ (.int .i64 ld) (by show w.heap.size + 2 < _; have := HZ.out; have := Zs1.out; omega)).setC ⟨w.heap.size + 2, 3, none⟩ (.int .i64 ep) (by show w.heap.size + 2 < _; have := HZ.out; have := Zs1.out; omega))
  have A2_2 : Hid (W2.ownsRow W1.heap.size 4 1 (.slice (some ⟨W1.heap.size, 0, none⟩) nd nd) nd (dn.map Value.bool)) := by rw [← hW2]; exact hide (own_set9 (own_set9 (own_set9 x2.out ⟨w.heap.size + 2, 1, none⟩ (.slice (some ⟨W1.heap.size, 0, none⟩) nd nd) (by show w.heap.size + 2 < _; have := HZ.out; have := Zs1.out; omega)) ⟨w.heap.size + 2, 2, none⟩ (.int .i64 ld) (by show w.heap.size + 2 < _; have := HZ.out; have := Zs1.out; omega)) ⟨w.heap.size + 2, 3, none⟩ (.int .i64 ep) (by show w.heap.size + 2 < _; have := HZ.out; have := Zs1.out; omega))
  rw [hW2]
  clear hW2 Bx2 Ix2 Rx2 Ox2 zb2 y0 y1 y2_ y3 y4 y5 yf x1 x2
  clear k0 k1 k2 k3 k4 k5
  obtain ⟨k0, k1, k2, k3, k4, k5⟩ := blk6 I2.out
  go_wp2_with fail
  refine (C3.out _ B2.out).mono ?_
  rintro e w3 ⟨rfl, ho3, hb⟩
  have zb3 := hb.size
  have Bx3 := hide (B2.out.trans (hb.mono B2.out.size))
  have Ix3 := hide ((hb.block w.heap.size (Array.getElem?_eq_some_iff.1 I2.out).1).trans I2.out)
  have Rx3 := hide ((hb.block (w.heap.size + 1) (Array.getElem?_eq_some_iff.1 R2.out).1).trans R2.out)
  have Ox3 := hide ((hb.block (w.heap.size + 2) (Array.getElem?_eq_some_iff.1 O2.out).1).trans O2.out)
  have x1 := hide (A1_2.out.below hb)
  have x2 := hide (own_belowT A2_2.out hb)
  have x3 := hide ho3
  clear hb ho3 k0 k1 k2 k3 k4 k5
  obtain ⟨k0, k1, k2, k3, k4, k5⟩ := blk6 Ix3.out
  have u0 := Ox3.out
  obtain ⟨y0, y1, y2_, y3, y4, y5⟩ := blk6 u0
  have yf : ∀ i, w3.frozen? ⟨w.heap.size + 2, i, none⟩ = false := fun i => by simp [World.frozen?, u0]
  clear u0
  go_upto_region 7 with fail
  obtain ⟨W3, hW3⟩ : ∃ W3, (w3).setCell ⟨w.heap.size + 2, 4, none⟩ (.slice (some ⟨W2.heap.size, 0, none⟩) ny ny) = W3 := ⟨_, rfl⟩
  have B3 : Hid (Below w.heap.size w W3) := by rw [← hW3]; exact hide (Bx3.out.setCell (p := ⟨w.heap.size + 2, 4, none⟩) (by show w.heap.size ≤ w.heap.size + 2; omega) _)
  have I3 : Hid (W3.heap[w.heap.size]? = some (rpL ag n cg ad nd cd ld ep ay ny cy ac nc cc)) := by rw [← hW3]; exact hide ((Below.heap_setCell _ _ _ _ (show w.heap.size ≠ w.heap.size + 2 by omega)).trans Ix3.out)
  have R3 : Hid (W3.heap[w.heap.size + 1]? = some (.cells #[.slice none 0 0, .slice none 0 0, .int .i64 0, .int .i64 0, .slice none 0 0, .slice none 0 0] 32 (0, 0))) := by rw [← hW3]; exact hide ((Below.heap_setCell _ _ _ _ (show w.heap.size + 1 ≠ w.heap.size + 2 by omega)).trans Rx3.out)
  have O3 : Hid (W3.heap[w.heap.size + 2]? = some (.cells #[.slice (some ⟨W0.heap.size, 0, none⟩) n n, .slice (some ⟨W1.heap.size, 0, none⟩) nd nd, .int .i64 ld, .int .i64 ep, .slice (some ⟨W2.heap.size, 0, none⟩) ny ny, .slice none 0 0] 32 (0, 0))) := by rw [← hW3]; exact hide ((heap_setCell_same _ (w.heap.size + 2) 4 _ _ (.slice (some ⟨W2.heap.size, 0, none⟩) ny ny) Ox3.out).trans rfl)
  have Zs3 : Hid (W2.heap.size ≤ W3.heap.size) := by rw [← hW3]; exact hide (by simp; exact zb3)
  have A1_3 : Hid (OwnG W3 W0.heap.size G g n) := by rw [← hW3]; exact hide (x1.out.setC ⟨w.heap.size + 2, 4, none⟩ (.slice (some ⟨W2.heap.size, 0, none⟩) ny ny) (by show w.heap.size + 2 < _; have := HZ.out; have := Zs1.out; have := Zs2.out; omega))
  have A2_3 : Hid (W3.ownsRow W1.heap.size 4 1 (.slice (some ⟨W1.heap.size, 0, none⟩) nd nd) nd (dn.map Value.bool)) := by rw [← hW3]; exact hide (own_set9 x2.out ⟨w.heap.size + 2, 4, none⟩ (.slice (some ⟨W2.heap.size, 0, none⟩) ny ny) (by show w.heap.size + 2 < _; have := HZ.out; have := Zs1.out; have := Zs2.out; omega))
  have A3_3 : Hid (W3.ownsRow W2.heap.size 3 1 (.slice (some ⟨W2.heap.size, 0, none⟩) ny ny) ny (sy.map (Value.int .i64))) := by rw [← hW3]; exact hide (own_set9 x3.out ⟨w.heap.size + 2, 4, none⟩ (.slice (some ⟨W2.heap.size, 0, none⟩) ny ny) (by show w.heap.size + 2 < _; have := HZ.out; have := Zs1.out; have := Zs2.out; omega))
  rw [hW3]
  clear hW3 Bx3 Ix3 Rx3 Ox3 zb3 y0 y1 y2_ y3 y4 y5 yf x1 x2 x3
  clear k0 k1 k2 k3 k4 k5
  obtain ⟨k0, k1, k2, k3, k4, k5⟩ := blk6 I3.out
  go_wp2_with fail
  refine (C4.out _ B3.out).mono ?_
  rintro e w4 ⟨rfl, ho4, hb⟩
  have zb4 := hb.size
  have Bx4 := hide (B3.out.trans (hb.mono B3.out.size))
  have Ix4 := hide ((hb.block w.heap.size (Array.getElem?_eq_some_iff.1 I3.out).1).trans I3.out)
  have Rx4 := hide ((hb.block (w.heap.size + 1) (Array.getElem?_eq_some_iff.1 R3.out).1).trans R3.out)
  have Ox4 := hide ((hb.block (w.heap.size + 2) (Array.getElem?_eq_some_iff.1 O3.out).1).trans O3.out)
  have x1 := hide (A1_3.out.below hb)
  have x2 := hide (own_belowT A2_3.out hb)
  have x3 := hide (own_belowT A3_3.out hb)
  have x4 := hide ho4
  clear hb ho4 k0 k1 k2 k3 k4 k5
  obtain ⟨k0, k1, k2, k3, k4, k5⟩ := blk6 Ix4.out
  have u0 := Ox4.out
  obtain ⟨y0, y1, y2_, y3, y4, y5⟩ := blk6 u0
  have yf : ∀ i, w4.frozen? ⟨w.heap.size + 2, i, none⟩ = false := fun i => by simp [World.frozen?, u0]
  clear u0
  go_upto_region 8 with fail
  obtain ⟨W4, hW4⟩ : ∃ W4, (w4).setCell ⟨w.heap.size + 2, 5, none⟩ (.slice (some ⟨W3.heap.size, 0, none⟩) nc nc) = W4 := ⟨_, rfl⟩
  have B4 : Hid (Below w.heap.size w W4) := by rw [← hW4]; exact hide (Bx4.out.setCell (p := ⟨w.heap.size + 2, 5, none⟩) (by show w.heap.size ≤ w.heap.size + 2; omega) _)
  have I4 : Hid (W4.heap[w.heap.size]? = some (rpL ag n cg ad nd cd ld ep ay ny cy ac nc cc)) := by rw [← hW4]; exact hide ((Below.heap_setCell _ _ _ _ (show w.heap.size ≠ w.heap.size + 2 by omega)).trans Ix4.out)
  have R4 : Hid (W4.heap[w.heap.size + 1]? = some (.cells #[.slice none 0 0, .slice none 0 0, .int .i64 0, .int .i64 0, .slice none 0 0, .slice none 0 0] 32 (0, 0))) := by rw [← hW4]; exact hide ((Below.heap_setCell _ _ _ _ (show w.heap.size + 1 ≠ w.heap.size + 2 by omega)).trans Rx4.out)
  have O4 : Hid (W4.heap[w.heap.size + 2]? = some (.cells #[.slice (some ⟨W0.heap.size, 0, none⟩) n n, .slice (some ⟨W1.heap.size, 0, none⟩) nd nd, .int .i64 ld, .int .i64 ep, .slice (some ⟨W2.heap.size, 0, none⟩) ny ny, .slice (some ⟨W3.heap.size, 0, none⟩) nc nc] 32 (0, 0))) := by rw [← hW4]; exact hide ((heap_setCell_same _ (w.heap.size + 2) 5 _ _ (.slice (some ⟨W3.heap.size, 0, none⟩) nc nc) Ox4.out).trans rfl)
  have Zs4 : Hid (W3.heap.size ≤ W4.heap.size) := by rw [← hW4]; exact hide (by simp; exact zb4)
  have A1_4 : Hid (OwnG W4 W0.heap.size G g n) := by rw [← hW4]; exact hide (x1.out.setC ⟨w.heap.size + 2, 5, none⟩ (.slice (some ⟨W3.heap.size, 0, none⟩) nc nc) (by show w.heap.size + 2 < _; have := HZ.out; have := Zs1.out; have := Zs2.out; have := Zs3.out; omega))
  have A2_4 : Hid (W4.ownsRow W1.heap.size 4 1 (.slice (some ⟨W1.heap.size, 0, none⟩) nd nd) nd (dn.map Value.bool)) := by rw [← hW4]; exact hide (own_set9 x2.out ⟨w.heap.size + 2, 5, none⟩ (.slice (some ⟨W3.heap.size, 0, none⟩) nc nc) (by show w.heap.size + 2 < _; have := HZ.out; have := Zs1.out; have := Zs2.out; have := Zs3.out; omega))
  have A3_4 : Hid (W4.ownsRow W2.heap.size 3 1 (.slice (some ⟨W2.heap.size, 0, none⟩) ny ny) ny (sy.map (Value.int .i64))) := by rw [← hW4]; exact hide (own_set9 x3.out ⟨w.heap.size + 2, 5, none⟩ (.slice (some ⟨W3.heap.size, 0, none⟩) nc nc) (by show w.heap.size + 2 < _; have := HZ.out; have := Zs1.out; have := Zs2.out; have := Zs3.out; omega))
  have A4_4 : Hid (W4.ownsRow W3.heap.size 93 2 (.slice (some ⟨W3.heap.size, 0, none⟩) nc nc) nc (flatE ce)) := by rw [← hW4]; exact hide (own_set9 x4.out ⟨w.heap.size + 2, 5, none⟩ (.slice (some ⟨W3.heap.size, 0, none⟩) nc nc) (by show w.heap.size + 2 < _; have := HZ.out; have := Zs1.out; have := Zs2.out; have := Zs3.out; omega))
  rw [hW4]
  clear hW4 Bx4 Ix4 Rx4 Ox4 zb4 y0 y1 y2_ y3 y4 y5 yf x1 x2 x3 x4
  clear k0 k1 k2 k3 k4 k5
  obtain ⟨k0, k1, k2, k3, k4, k5⟩ := blk6 I4.out
  obtain ⟨y0, y1, y2_, y3, y4, y5⟩ := blk6 O4.out
  have r0 := R4.out
  obtain ⟨z0, z1, z2, z3, z4, z5⟩ := blk6 r0
  have zf : ∀ i, W4.frozen? ⟨w.heap.size + 1, i, none⟩ = false := fun i => by simp [World.frozen?, r0]
  clear r0
  go_wp2
  refine bodyPost_ret (v := rpV (some ⟨W0.heap.size, 0, none⟩) n n (some ⟨W1.heap.size, 0, none⟩) nd nd ld ep (some ⟨W2.heap.size, 0, none⟩) ny ny (some ⟨W3.heap.size, 0, none⟩) nc nc) ?_ rfl ?_
  · simp [results, Try.f20, go_sem, z0, z1, z2, z3, z4, z5]
  · have q0 := HZ.out
    have q1 := Zs1.out
    have q2 := Zs2.out
    have q3 := Zs3.out
    refine ⟨_, _, _, _, rfl, ⟨⟨?_, ?_, ?_⟩, ?_⟩, ?_⟩
    · have h := ((((((A1_4.out.setC ⟨w.heap.size + 1, 0, none⟩ (.slice (some ⟨W0.heap.size, 0, none⟩) n n) (by show w.heap.size + 1 < _; omega)).setC ⟨w.heap.size + 1, 1, none⟩ (.slice (some ⟨W1.heap.size, 0, none⟩) nd nd) (by show w.heap.size + 1 < _; omega)).setC ⟨w.heap.size + 1, 2, none⟩ (.int .i64 ld) (by show w.heap.size + 1 < _; omega)).setC ⟨w.heap.size + 1, 3, none⟩ (.int .i64 ep) (by show w.heap.size + 1 < _; omega)).setC ⟨w.heap.size + 1, 4, none⟩ (.slice (some ⟨W2.heap.size, 0, none⟩) ny ny) (by show w.heap.size + 1 < _; omega)).setC ⟨w.heap.size + 1, 5, none⟩ (.slice (some ⟨W3.heap.size, 0, none⟩) nc nc) (by show w.heap.size + 1 < _; omega))
      have hl := HN.out
      subst hl
      exact h.sl
    · exact sl_of_own ((own_set9 (own_set9 (own_set9 (own_set9 (own_set9 (own_set9 A3_4.out ⟨w.heap.size + 1, 0, none⟩ (.slice (some ⟨W0.heap.size, 0, none⟩) n n) (by show w.heap.size + 1 < _; omega)) ⟨w.heap.size + 1, 1, none⟩ (.slice (some ⟨W1.heap.size, 0, none⟩) nd nd) (by show w.heap.size + 1 < _; omega)) ⟨w.heap.size + 1, 2, none⟩ (.int .i64 ld) (by show w.heap.size + 1 < _; omega)) ⟨w.heap.size + 1, 3, none⟩ (.int .i64 ep) (by show w.heap.size + 1 < _; omega)) ⟨w.heap.size + 1, 4, none⟩ (.slice (some ⟨W2.heap.size, 0, none⟩) ny ny) (by show w.heap.size + 1 < _; omega)) ⟨w.heap.size + 1, 5, none⟩ (.slice (some ⟨W3.heap.size, 0, none⟩) nc nc) (by show w.heap.size + 1 < _; omega)))
    · exact own_slE ((own_set9 (own_set9 (own_set9 (own_set9 (own_set9 (own_set9 A4_4.out ⟨w.heap.size + 1, 0, none⟩ (.slice (some ⟨W0.heap.size, 0, none⟩) n n) (by show w.heap.size + 1 < _; omega)) ⟨w.heap.size + 1, 1, none⟩ (.slice (some ⟨W1.heap.size, 0, none⟩) nd nd) (by show w.heap.size + 1 < _; omega)) ⟨w.heap.size + 1, 2, none⟩ (.int .i64 ld) (by show w.heap.size + 1 < _; omega)) ⟨w.heap.size + 1, 3, none⟩ (.int .i64 ep) (by show w.heap.size + 1 < _; omega)) ⟨w.heap.size + 1, 4, none⟩ (.slice (some ⟨W2.heap.size, 0, none⟩) ny ny) (by show w.heap.size + 1 < _; omega)) ⟨w.heap.size + 1, 5, none⟩ (.slice (some ⟨W3.heap.size, 0, none⟩) nc nc) (by show w.heap.size + 1 < _; omega)))
    · exact sl_of_ownB ((own_set9 (own_set9 (own_set9 (own_set9 (own_set9 (own_set9 A2_4.out ⟨w.heap.size + 1, 0, none⟩ (.slice (some ⟨W0.heap.size, 0, none⟩) n n) (by show w.heap.size + 1 < _; omega)) ⟨w.heap.size + 1, 1, none⟩ (.slice (some ⟨W1.heap.size, 0, none⟩) nd nd) (by show w.heap.size + 1 < _; omega)) ⟨w.heap.size + 1, 2, none⟩ (.int .i64 ld) (by show w.heap.size + 1 < _; omega)) ⟨w.heap.size + 1, 3, none⟩ (.int .i64 ep) (by show w.heap.size + 1 < _; omega)) ⟨w.heap.size + 1, 4, none⟩ (.slice (some ⟨W2.heap.size, 0, none⟩) ny ny) (by show w.heap.size + 1 < _; omega)) ⟨w.heap.size + 1, 5, none⟩ (.slice (some ⟨W3.heap.size, 0, none⟩) nc nc) (by show w.heap.size + 1 < _; omega)))
    · exact ((((((B4.out.setCell (p := ⟨w.heap.size + 1, 0, none⟩) (by show w.heap.size ≤ w.heap.size + 1; omega) _).setCell (p := ⟨w.heap.size + 1, 1, none⟩) (by show w.heap.size ≤ w.heap.size + 1; omega) _).setCell (p := ⟨w.heap.size + 1, 2, none⟩) (by show w.heap.size ≤ w.heap.size + 1; omega) _).setCell (p := ⟨w.heap.size + 1, 3, none⟩) (by show w.heap.size ≤ w.heap.size + 1; omega) _).setCell (p := ⟨w.heap.size + 1, 4, none⟩) (by show w.heap.size ≤ w.heap.size + 1; omega) _).setCell (p := ⟨w.heap.size + 1, 5, none⟩) (by show w.heap.size ≤ w.heap.size + 1; omega) _)
end Go.Proofs.Ytbcljhafdpnjbbd.L9
