/-
  Contracts of the laws' own helpers on lists of ints: laws.toIntS copies a list into new memory.
  Contract of the laws' own helper toTell: a copy in memory of its own.
  Contract of the laws' own helper eqStringS: two lists alike are alike.
  Contract of the laws' own helper eqStringSS.
  Contracts of the laws' own helpers eqTold, eqToldS.
  Contracts of the laws' own helpers eqNote, eqNoteS.
  Contract of the laws' own helper eqTell.
-/
import Derived.Test.YthmekhhfihjclagBundle6
import Derived.Test.YthmekhhfihjclagBundle2
import Derived.Test.YthmekhhfihjclagBundle8
import Derived.Deep.DeepCutAuto
import Derived.Test.YthmekhhfihjclagBundle1
import Derived.Deep.QuietTactic
import Derived.BigQuiet
import Derived.Deep.RegionHeld3
namespace Go.Proofs.Ythmekhhfihjclag.L1
open Go.RowKit
set_option linter.unusedVariables false

set_option maxRecDepth 100000 in
set_option maxHeartbeats 1000000 in
theorem toIntS_any (a : Option Addr) (xs : List Int) (n cap : Nat) (w : World) (hn : xs.length = n) (hs : Sl w a xs) (hn2 : n ≤ 1048576) :
    Calls Try.prog 47 #[.slice a n cap] w fun e w' => e = .returned (.slice (some ⟨w.heap.size, 0, none⟩) n n) ∧
      w'.ownsRow w.heap.size 3 1 (.slice (some ⟨w.heap.size, 0, none⟩) n n) n (xs.map (Value.int .i64)) ∧ Below w.heap.size w w' := by
  obtain ⟨i0, hi, hz0, hz1, hz2⟩ := info_parts info_int
  obtain ⟨w1, hmk, hown1, hg1⟩ := run_make_full (P := Try.prog) w w.heap.size 23 3 i0 (.int .i64 0) 1 Try.underlying23 hi hz0 hz1 .i64 .i64 n (by rw [hz2]; omega) (by unfold maxLen; omega) (Nat.le_refl _)
  rw [made_ints] at hown1
  have hb1 : Below w.heap.size w w1 := (Below.refl _ _).grown hg1 (Nat.le_refl _) (fun k hk => by cases hk)
  have HO := hide hown1
  have HS := hide hs
  have HN := hide hn
  clear hown1 hg1 hs hn
  go_enter Try.func47, Try.ntmps47
  go_wp2
  go_loopw [4] (fun i wr => ∃ (k : Nat) (ys : List Int), k ≤ n ∧ i = .int .i64 k ∧ ys.length = n ∧ Hid (∀ j, j < k → ys.getD j 0 = xs.getD j 0) ∧
      wr.ownsRow w.heap.size 3 1 (.slice (some ⟨w.heap.size, 0, none⟩) n n) n (ys.map (Value.int .i64)) ∧ Below w.heap.size w wr) (fun i _ => n - (intOf i).toNat)
  case atStart => exact ⟨0, List.replicate n 0, Nat.zero_le _, rfl, by simp, fun j hj => absurd hj (Nat.not_lt_zero _), HO, hb1⟩
  case round =>
    obtain ⟨k, ys, hk, rfl, hyl, HX, hown, hbel⟩ := hrel
    have HL := hide hyl
    clear hyl
    by_cases hlt : k < n
    · obtain ⟨b, off, rfl, hc0⟩ := HS.out k (by rw [HN.out]; exact hlt)
      have hc : wr.cell? ⟨b, off + k, none⟩ = some (.int .i64 (xs.getD k 0)) := by
        rw [hbel.cell (p := ⟨b, off + k, none⟩) (blk_lt hc0)]
        exact hc0
      clear hc0
      have hcl := hown.cellAt k (by omega)
      have hfr := hown.frozenAt k
      have hltI : (k : Int) < (n : Int) := by omega
      obtain ⟨v, hv⟩ : ∃ v, wr.cell? ⟨w.heap.size, k, none⟩ = some v := ⟨_, hcl.trans (List.getElem?_eq_getElem (by have := HL.out; simp; omega))⟩
      have R := copy_round hlt HN.out HL.out HX.out hown hbel
      obtain ⟨x, hx⟩ : ∃ x, x = xs.getD k 0 := ⟨_, rfl⟩
      rw [← hx] at hc R
      have HR := hide R
      clear hcl hx R
      go_wp2
      go_roundw
      case rel => exact HR.out
      case measure => simp [intOf]; omega
    · have e : ys = xs := list_same HN.out HL.out (fun j hj => HX.out j (by omega))
      subst e
      have hltI : ¬ (k : Int) < (n : Int) := by omega
      go_wp2
      go_ret
      exact ⟨rfl, hown, hbel⟩

end Go.Proofs.Ythmekhhfihjclag.L1

namespace Go.Proofs.Ythmekhhfihjclag.L10
open Go.RowKit L1 Own Str Nte Tri
set_option linter.unusedVariables false

abbrev five (w : World) (z : Nat) (v0 v1 v2 v3 v4 : Value) : World := ((((w.setCell ⟨z, 0, none⟩ v0).setCell ⟨z, 1, none⟩ v1).setCell ⟨z, 2, none⟩ v2).setCell ⟨z, 3, none⟩ v3).setCell ⟨z, 4, none⟩ v4
theorem five_bel {N : Nat} {w w' : World} {z : Nat} (h : Below N w w') (hz : N ≤ z) (v0 v1 v2 v3 v4 : Value) : Below N w (five w' z v0 v1 v2 v3 v4) :=
  ((((h.setCell (p := ⟨z, 0, none⟩) hz _).setCell (p := ⟨z, 1, none⟩) hz _).setCell (p := ⟨z, 2, none⟩) hz _).setCell (p := ⟨z, 3, none⟩) hz _).setCell (p := ⟨z, 4, none⟩) hz _
theorem five_blk {w : World} {z q : Nat} (v0 v1 v2 v3 v4 : Value) (h : q ≠ z) : (five w z v0 v1 v2 v3 v4).heap[q]? = w.heap[q]? := by
  unfold five
  rw [Below.heap_setCell _ _ _ _ h, Below.heap_setCell _ _ _ _ h, Below.heap_setCell _ _ _ _ h, Below.heap_setCell _ _ _ _ h, Below.heap_setCell _ _ _ _ h]
theorem five_size (w : World) (z : Nat) (v0 v1 v2 v3 v4 : Value) : (five w z v0 v1 v2 v3 v4).heap.size = w.heap.size := by unfold five; simp
theorem ownSS_setO {w : World} {B : Nat} {ls : List (List ByteArray)} {g : Nat → Nat} {m : Nat} (h : OwnSS w B ls g m) (p : Addr) (u : Value) (hp : p.block < B) : OwnSS (w.setCell p u) B ls g m :=
  ⟨fun i hi => by rw [World.cell?_setCell_other _ _ _ _ (fun e => by have e' := congrArg Addr.block e; simp at e'; omega)]; exact h.cell i hi, fun i hi => own_setO (h.own i hi) p u (by omega), h.rise, fun i hi => by simp; exact h.lt i hi⟩
/-- The copies of the five fields are a world of its own. -/
theorem five_tw {w W5 : World} {z N : Nat} {b0 b1 b2 b3 b4 : Nat} {m : Tm} {nT nH nL nG nN : Nat} {gg : Nat → Nat} {vs : List Value} (hNz : N ≤ z) (hz : TlZ m nT nH nL nG nN) (h0 : OwnSS W5 b0 m.T gg nT) (h1 : W5.ownsRow b0 58 1 (.slice (some ⟨b0, 0, none⟩) nT nT) nT vs) (h2 : W5.ownsRow b1 3 1 (.slice (some ⟨b1, 0, none⟩) nH nH) nH (m.hd.map (Value.int .i64))) (h3 : W5.ownsRow b2 77 4 (.slice (some ⟨b2, 0, none⟩) nL nL) nL (flat4 m.ln)) (h4 : W5.ownsRow b3 75 3 (.slice (some ⟨b3, 0, none⟩) nG nG) nG (flat3 m.lg)) (h5 : W5.ownsRow b4 3 1 (.slice (some ⟨b4, 0, none⟩) nN nN) nN (m.nx.map (Value.int .i64)))
    (hb0 : z < b0) (hb1 : z < b1) (hb2 : z < b2) (hb3 : z < b3) (hb4 : z < b4) (hd : b1 ≠ b4) (v0 v1 v2 v3 v4 : Value) :
    TW (five W5 z v0 v1 v2 v3 v4) (fun q => N ≤ q ∧ q < (five W5 z v0 v1 v2 v3 v4).heap.size) vs (.slice (some ⟨b0, 0, none⟩) nT nT) (.slice (some ⟨b1, 0, none⟩) nH nH) (.slice (some ⟨b2, 0, none⟩) nL nL) (.slice (some ⟨b3, 0, none⟩) nG nG) (.slice (some ⟨b4, 0, none⟩) nN nN) m := by
  have hl : ∀ {base c n : Nat} {t : TypeId} {v : Value} {xs : List Value}, W5.ownsRow base t c v n xs → z < base → (five W5 z v0 v1 v2 v3 v4).ownsRow 0 t c v n xs := fun ho hb => own_zero (own_at ho fun q hq => five_blk _ _ _ _ _ (fun e => by have := own_ge ho q hq; omega))
  have ins : ∀ {base c n : Nat} {t : TypeId} {v : Value} {xs : List Value}, W5.ownsRow base t c v n xs → z < base → InS (fun q => N ≤ q ∧ q < (five W5 z v0 v1 v2 v3 v4).heap.size) v := fun ho hb q hq => ⟨by have := own_ge ho q hq; omega, by rw [five_size]; exact own_ltO ho q hq⟩
  have hvl : vs.length = nT := by have := h1.1; omega
  have hV : ∀ i, i < m.T.length → vs.getD i nilV = .slice (some ⟨gg i, 0, none⟩) (m.T.getD i []).length (m.T.getD i []).length := fun i hi => by
    have hi' : i < nT := by rw [← hz.t]; exact hi
    have hc := h0.cell i hi'
    have hu : vs[i]? = some (vs.getD i nilV) := by simp [List.getD, List.getElem?_eq_getElem (show i < vs.length by omega)]
    have hc2 := own_cellO h1 i _ hu
    rw [hc] at hc2
    exact (Option.some.inj hc2).symm
  have ho : ∀ i, i < m.T.length → W5.ownsRow (b0 + 1) 9 1 (vs.getD i nilV) (m.T.getD i []).length (mapS (m.T.getD i [])) := fun i hi => by
    rw [hV i hi]
    exact h0.own i (by rw [← hz.t]; exact hi)
  refine ⟨by rw [hz.t]; exact hl h1 hb0, fun i hi => hl (ho i hi) (by omega), fun i k q hi hk hik e e2 => ?_, by rw [hz.h]; exact hl h2 hb1, by rw [hz.l]; exact hl h3 hb2, by rw [hz.g]; exact hl h4 hb3, by rw [hz.n]; exact hl h5 hb4, fun q e e2 => ?_, ins h1 hb0, fun i hi => ins (ho i hi) (by omega), ins h2 hb1, ins h3 hb2, ins h4 hb3, ins h5 hb4⟩
  · rw [hV i hi] at e
    rw [hV k hk] at e2
    have e' : gg i = q := Option.some.inj e
    have e2' : gg k = q := Option.some.inj e2
    have hi' : i < nT := by rw [← hz.t]; exact hi
    have hk' : k < nT := by rw [← hz.t]; exact hk
    rcases Nat.lt_or_gt_of_ne hik with h | h
    · have := h0.rise i k h hk'; omega
    · have := h0.rise k i h hi'; omega
  · have e' : b1 = q := Option.some.inj e
    have e2' : b4 = q := Option.some.inj e2
    omega
set_option maxRecDepth 100000 in
set_option maxHeartbeats 4000000 in
theorem toTell_any (aT : Option Addr) (nT cT : Nat) (aH : Option Addr) (nH cH : Nat) (aL : Option Addr) (nL cL : Nat) (aG : Option Addr) (nG cG : Nat) (aN : Option Addr) (nN cN : Nat) (m : Tm) (w : World) (hz : TlZ m nT nH nL nG nN) (h1 : TlF w aT aH aL aG aN m) :
    Calls Try.prog 11 #[tlV aT nT cT aH nH cH aL nL cL aG nG cG aN nN cN] w fun e w' => ∃ V a0 a1 a2 a3 a4, e = .returned (tlV a0 nT nT a1 nH nH a2 nL nL a3 nG nG a4 nN nN) ∧ TW w' (fun q => w.heap.size ≤ q ∧ q < w'.heap.size) V (.slice a0 nT nT) (.slice a1 nH nH) (.slice a2 nL nL) (.slice a3 nG nG) (.slice a4 nN nN) m ∧ Below w.heap.size w w' := by
  obtain ⟨W0, hW0⟩ : ∃ W0, ((w.alloc (tlL aT nT cT aH nH cH aL nL cL aG nG cG aN nN cN)).alloc zT).alloc zT = W0 := ⟨_, rfl⟩
  have hs0 : W0.heap.size = w.heap.size + 3 := by rw [← hW0]; simp
  have BX : Hid (Below w.heap.size w W0) := by rw [← hW0]; exact hide ((((Below.refl _ _).alloc (Nat.le_refl _) _).alloc (by simp) _).alloc (by simp; omega) _)
  have I0 : Hid (W0.heap[w.heap.size]? = some (tlL aT nT cT aH nH cH aL nL cL aG nG cG aN nN cN)) := by
    rw [← hW0]
    have hb := ((Below.refl (w.alloc (tlL aT nT cT aH nH cH aL nL cL aG nG cG aN nN cN)).heap.size (w.alloc (tlL aT nT cT aH nH cH aL nL cL aG nG cG aN nN cN))).alloc (Nat.le_refl _) zT).alloc (by simp) zT
    exact hide ((hb.block w.heap.size (by simp)).trans (blk_newO _ _))
  have R0 : Hid (W0.heap[w.heap.size + 1]? = some zT) := by
    rw [← hW0]
    have hb := (Below.refl ((w.alloc (tlL aT nT cT aH nH cH aL nL cL aG nG cG aN nN cN)).alloc zT).heap.size _).alloc (Nat.le_refl _) zT
    have h2 := blk_newO (w.alloc (tlL aT nT cT aH nH cH aL nL cL aG nG cG aN nN cN)) zT
    rw [World.size_alloc] at h2
    exact hide ((hb.block (w.heap.size + 1) (by simp)).trans h2)
  have O0 : Hid (W0.heap[w.heap.size + 2]? = some zT) := by
    rw [← hW0]
    have h2 := blk_newO ((w.alloc (tlL aT nT cT aH nH cH aL nL cL aG nG cG aN nN cN)).alloc zT) zT
    rw [World.size_alloc, World.size_alloc] at h2
    exact hide h2
  have C1 := hide (fun wx (hb : Below w.heap.size w wx) => toStringSS_any aT m.T nT cT wx hz.t (h1.t.below hb) hz.bt hz.bs)
  have C2 := hide (fun wx (hb : Below w.heap.size w wx) => toIntS_any aH m.hd nH cH wx hz.h (h1.h.below hb) hz.bh)
  have C3 := hide (fun wx (hb : Below w.heap.size w wx) => toNoteS_any aL m.ln nL cL wx hz.l (h1.l.below hb) hz.bl)
  have C4 := hide (fun wx (hb : Below w.heap.size w wx) => toToldS_any aG m.lg nG cG wx hz.g (h1.g.below hb) hz.bg)
  have C5 := hide (fun wx (hb : Below w.heap.size w wx) => toIntS_any aN m.nx nN cN wx hz.n (h1.n.below hb) hz.bn)
  have HW := hide hW0
  have HZZ := hide hz
  have HZ := hide hs0
  clear hW0 h1 hz hs0
  obtain ⟨k0, k1, k2, k3, k4⟩ := blk5 I0.out
  go_enter Try.func11, Try.ntmps11
  go_upto_region 2 with fail
  rw [HW.out]
  clear HW
  go_wp2_with fail
  refine (C1.out _ BX.out).mono ?_
  rintro e w1 ⟨rfl, ⟨⟨gg, ho1⟩, vs, hv1⟩, _, hb⟩
  have zb := hb.size
  have Bx := hide (BX.out.trans (hb.mono BX.out.size))
  have Ix := hide ((hb.block w.heap.size (Array.getElem?_eq_some_iff.1 I0.out).1).trans I0.out)
  have Rx := hide ((hb.block (w.heap.size + 1) (Array.getElem?_eq_some_iff.1 R0.out).1).trans R0.out)
  have Ox := hide ((hb.block (w.heap.size + 2) (Array.getElem?_eq_some_iff.1 O0.out).1).trans O0.out)
  have y0_ := hide ho1
  have x1 := hide hv1
  clear ho1 hv1
  clear hb k0 k1 k2 k3 k4
  obtain ⟨k0, k1, k2, k3, k4⟩ := blk5 Ix.out
  have u0 := Ox.out
  obtain ⟨y0, y1, y2, y3, y4⟩ := blk5 u0
  have yf : ∀ i, w1.frozen? ⟨w.heap.size + 2, i, none⟩ = false := fun i => frzO u0 i
  clear u0
  go_upto_region 3 with fail
  obtain ⟨W1, hW⟩ : ∃ x, (w1).setCell ⟨w.heap.size + 2, 0, none⟩ (.slice (some ⟨W0.heap.size, 0, none⟩) nT nT) = x := ⟨_, rfl⟩
  have BB1 : Hid (Below w.heap.size w W1) := by rw [← hW]; exact hide (Bx.out.setCell (p := ⟨w.heap.size + 2, 0, none⟩) (by show w.heap.size ≤ w.heap.size + 2; omega) _)
  have I1 : Hid (W1.heap[w.heap.size]? = some (tlL aT nT cT aH nH cH aL nL cL aG nG cG aN nN cN)) := by rw [← hW]; exact hide ((Below.heap_setCell _ _ _ _ (show w.heap.size ≠ w.heap.size + 2 by omega)).trans Ix.out)
  have R1 : Hid (W1.heap[w.heap.size + 1]? = some zT) := by rw [← hW]; exact hide ((Below.heap_setCell _ _ _ _ (show w.heap.size + 1 ≠ w.heap.size + 2 by omega)).trans Rx.out)
  have O1 : Hid (W1.heap[w.heap.size + 2]? = some (.cells #[.slice (some ⟨W0.heap.size, 0, none⟩) nT nT, .slice none 0 0, .slice none 0 0, .slice none 0 0, .slice none 0 0] 33 (0, 0))) := by rw [← hW]; exact hide ((heap_boxO Ox.out 0 (.slice (some ⟨W0.heap.size, 0, none⟩) nT nT)).trans rfl)
  have Zs1 : Hid (W0.heap.size ≤ W1.heap.size) := by rw [← hW]; exact hide (by simp; exact zb)
  have A0_1 : Hid (OwnSS W1 W0.heap.size m.T gg nT) := by rw [← hW]; exact hide (ownSS_setO y0_.out ⟨w.heap.size + 2, 0, none⟩ (.slice (some ⟨W0.heap.size, 0, none⟩) nT nT) (by show w.heap.size + 2 < _; have := HZ.out; omega))
  have A1_1 : Hid (W1.ownsRow W0.heap.size 58 1 (.slice (some ⟨W0.heap.size, 0, none⟩) nT nT) nT vs) := by rw [← hW]; exact hide (own_setO x1.out ⟨w.heap.size + 2, 0, none⟩ (.slice (some ⟨W0.heap.size, 0, none⟩) nT nT) (by show w.heap.size + 2 < _; have := HZ.out; omega))
  rw [hW]
  clear hW Bx Ix Rx Ox zb y0 y1 y2 y3 y4 yf y0_ x1 k0 k1 k2 k3 k4
  obtain ⟨k0, k1, k2, k3, k4⟩ := blk5 I1.out
  go_wp2_with fail
  refine (C2.out _ BB1.out).mono ?_
  rintro e w2 ⟨rfl, hv2, hb⟩
  have zb := hb.size
  have Bx := hide (BB1.out.trans (hb.mono BB1.out.size))
  have Ix := hide ((hb.block w.heap.size (Array.getElem?_eq_some_iff.1 I1.out).1).trans I1.out)
  have Rx := hide ((hb.block (w.heap.size + 1) (Array.getElem?_eq_some_iff.1 R1.out).1).trans R1.out)
  have Ox := hide ((hb.block (w.heap.size + 2) (Array.getElem?_eq_some_iff.1 O1.out).1).trans O1.out)
  have y0_ := hide (A0_1.out.below hb)
  have x1 := hide (own_belO A1_1.out hb)
  have x2 := hide hv2
  clear hv2
  clear hb k0 k1 k2 k3 k4
  obtain ⟨k0, k1, k2, k3, k4⟩ := blk5 Ix.out
  have u0 := Ox.out
  obtain ⟨y0, y1, y2, y3, y4⟩ := blk5 u0
  have yf : ∀ i, w2.frozen? ⟨w.heap.size + 2, i, none⟩ = false := fun i => frzO u0 i
  clear u0
  go_upto_region 4 with fail
  obtain ⟨W2, hW⟩ : ∃ x, (w2).setCell ⟨w.heap.size + 2, 1, none⟩ (.slice (some ⟨W1.heap.size, 0, none⟩) nH nH) = x := ⟨_, rfl⟩
  have BB2 : Hid (Below w.heap.size w W2) := by rw [← hW]; exact hide (Bx.out.setCell (p := ⟨w.heap.size + 2, 1, none⟩) (by show w.heap.size ≤ w.heap.size + 2; omega) _)
  have I2 : Hid (W2.heap[w.heap.size]? = some (tlL aT nT cT aH nH cH aL nL cL aG nG cG aN nN cN)) := by rw [← hW]; exact hide ((Below.heap_setCell _ _ _ _ (show w.heap.size ≠ w.heap.size + 2 by omega)).trans Ix.out)
  have R2 : Hid (W2.heap[w.heap.size + 1]? = some zT) := by rw [← hW]; exact hide ((Below.heap_setCell _ _ _ _ (show w.heap.size + 1 ≠ w.heap.size + 2 by omega)).trans Rx.out)
  have O2 : Hid (W2.heap[w.heap.size + 2]? = some (.cells #[.slice (some ⟨W0.heap.size, 0, none⟩) nT nT, .slice (some ⟨W1.heap.size, 0, none⟩) nH nH, .slice none 0 0, .slice none 0 0, .slice none 0 0] 33 (0, 0))) := by rw [← hW]; exact hide ((heap_boxO Ox.out 1 (.slice (some ⟨W1.heap.size, 0, none⟩) nH nH)).trans rfl)
  have Zs2 : Hid (W1.heap.size ≤ W2.heap.size) := by rw [← hW]; exact hide (by simp; exact zb)
  have A0_2 : Hid (OwnSS W2 W0.heap.size m.T gg nT) := by rw [← hW]; exact hide (ownSS_setO y0_.out ⟨w.heap.size + 2, 1, none⟩ (.slice (some ⟨W1.heap.size, 0, none⟩) nH nH) (by show w.heap.size + 2 < _; have := HZ.out; have := Zs1.out; omega))
  have A1_2 : Hid (W2.ownsRow W0.heap.size 58 1 (.slice (some ⟨W0.heap.size, 0, none⟩) nT nT) nT vs) := by rw [← hW]; exact hide (own_setO x1.out ⟨w.heap.size + 2, 1, none⟩ (.slice (some ⟨W1.heap.size, 0, none⟩) nH nH) (by show w.heap.size + 2 < _; have := HZ.out; have := Zs1.out; omega))
  have A2_2 : Hid (W2.ownsRow W1.heap.size 3 1 (.slice (some ⟨W1.heap.size, 0, none⟩) nH nH) nH (m.hd.map (Value.int .i64))) := by rw [← hW]; exact hide (own_setO x2.out ⟨w.heap.size + 2, 1, none⟩ (.slice (some ⟨W1.heap.size, 0, none⟩) nH nH) (by show w.heap.size + 2 < _; have := HZ.out; have := Zs1.out; omega))
  have HLT : Hid (W1.heap.size < W2.heap.size) := hide (A2_2.out.lt W1.heap.size rfl).2
  rw [hW]
  clear hW Bx Ix Rx Ox zb y0 y1 y2 y3 y4 yf y0_ x1 x2 k0 k1 k2 k3 k4
  obtain ⟨k0, k1, k2, k3, k4⟩ := blk5 I2.out
  go_wp2_with fail
  refine (C3.out _ BB2.out).mono ?_
  rintro e w3 ⟨rfl, hv3, hb⟩
  have zb := hb.size
  have Bx := hide (BB2.out.trans (hb.mono BB2.out.size))
  have Ix := hide ((hb.block w.heap.size (Array.getElem?_eq_some_iff.1 I2.out).1).trans I2.out)
  have Rx := hide ((hb.block (w.heap.size + 1) (Array.getElem?_eq_some_iff.1 R2.out).1).trans R2.out)
  have Ox := hide ((hb.block (w.heap.size + 2) (Array.getElem?_eq_some_iff.1 O2.out).1).trans O2.out)
  have y0_ := hide (A0_2.out.below hb)
  have x1 := hide (own_belO A1_2.out hb)
  have x2 := hide (own_belO A2_2.out hb)
  have x3 := hide hv3
  clear hv3
  clear hb k0 k1 k2 k3 k4
  obtain ⟨k0, k1, k2, k3, k4⟩ := blk5 Ix.out
  have u0 := Ox.out
  obtain ⟨y0, y1, y2, y3, y4⟩ := blk5 u0
  have yf : ∀ i, w3.frozen? ⟨w.heap.size + 2, i, none⟩ = false := fun i => frzO u0 i
  clear u0
  go_upto_region 5 with fail
  obtain ⟨W3, hW⟩ : ∃ x, (w3).setCell ⟨w.heap.size + 2, 2, none⟩ (.slice (some ⟨W2.heap.size, 0, none⟩) nL nL) = x := ⟨_, rfl⟩
  have BB3 : Hid (Below w.heap.size w W3) := by rw [← hW]; exact hide (Bx.out.setCell (p := ⟨w.heap.size + 2, 2, none⟩) (by show w.heap.size ≤ w.heap.size + 2; omega) _)
  have I3 : Hid (W3.heap[w.heap.size]? = some (tlL aT nT cT aH nH cH aL nL cL aG nG cG aN nN cN)) := by rw [← hW]; exact hide ((Below.heap_setCell _ _ _ _ (show w.heap.size ≠ w.heap.size + 2 by omega)).trans Ix.out)
  have R3 : Hid (W3.heap[w.heap.size + 1]? = some zT) := by rw [← hW]; exact hide ((Below.heap_setCell _ _ _ _ (show w.heap.size + 1 ≠ w.heap.size + 2 by omega)).trans Rx.out)
  have O3 : Hid (W3.heap[w.heap.size + 2]? = some (.cells #[.slice (some ⟨W0.heap.size, 0, none⟩) nT nT, .slice (some ⟨W1.heap.size, 0, none⟩) nH nH, .slice (some ⟨W2.heap.size, 0, none⟩) nL nL, .slice none 0 0, .slice none 0 0] 33 (0, 0))) := by rw [← hW]; exact hide ((heap_boxO Ox.out 2 (.slice (some ⟨W2.heap.size, 0, none⟩) nL nL)).trans rfl)
  have Zs3 : Hid (W2.heap.size ≤ W3.heap.size) := by rw [← hW]; exact hide (by simp; exact zb)
  have A0_3 : Hid (OwnSS W3 W0.heap.size m.T gg nT) := by rw [← hW]; exact hide (ownSS_setO y0_.out ⟨w.heap.size + 2, 2, none⟩ (.slice (some ⟨W2.heap.size, 0, none⟩) nL nL) (by show w.heap.size + 2 < _; have := HZ.out; have := Zs1.out; have := Zs2.out; omega))
  have A1_3 : Hid (W3.ownsRow W0.heap.size 58 1 (.slice (some ⟨W0.heap.size, 0, none⟩) nT nT) nT vs) := by rw [← hW]; exact hide (own_setO x1.out ⟨w.heap.size + 2, 2, none⟩ (.slice (some ⟨W2.heap.size, 0, none⟩) nL nL) (by show w.heap.size + 2 < _; have := HZ.out; have := Zs1.out; have := Zs2.out; omega))
  have A2_3 : Hid (W3.ownsRow W1.heap.size 3 1 (.slice (some ⟨W1.heap.size, 0, none⟩) nH nH) nH (m.hd.map (Value.int .i64))) := by rw [← hW]; exact hide (own_setO x2.out ⟨w.heap.size + 2, 2, none⟩ (.slice (some ⟨W2.heap.size, 0, none⟩) nL nL) (by show w.heap.size + 2 < _; have := HZ.out; have := Zs1.out; have := Zs2.out; omega))
  have A3_3 : Hid (W3.ownsRow W2.heap.size 77 4 (.slice (some ⟨W2.heap.size, 0, none⟩) nL nL) nL (flat4 m.ln)) := by rw [← hW]; exact hide (own_setO x3.out ⟨w.heap.size + 2, 2, none⟩ (.slice (some ⟨W2.heap.size, 0, none⟩) nL nL) (by show w.heap.size + 2 < _; have := HZ.out; have := Zs1.out; have := Zs2.out; omega))
  rw [hW]
  clear hW Bx Ix Rx Ox zb y0 y1 y2 y3 y4 yf y0_ x1 x2 x3 k0 k1 k2 k3 k4
  obtain ⟨k0, k1, k2, k3, k4⟩ := blk5 I3.out
  go_wp2_with fail
  refine (C4.out _ BB3.out).mono ?_
  rintro e w4 ⟨rfl, hv4, hb⟩
  have zb := hb.size
  have Bx := hide (BB3.out.trans (hb.mono BB3.out.size))
  have Ix := hide ((hb.block w.heap.size (Array.getElem?_eq_some_iff.1 I3.out).1).trans I3.out)
  have Rx := hide ((hb.block (w.heap.size + 1) (Array.getElem?_eq_some_iff.1 R3.out).1).trans R3.out)
  have Ox := hide ((hb.block (w.heap.size + 2) (Array.getElem?_eq_some_iff.1 O3.out).1).trans O3.out)
  have y0_ := hide (A0_3.out.below hb)
  have x1 := hide (own_belO A1_3.out hb)
  have x2 := hide (own_belO A2_3.out hb)
  have x3 := hide (own_belO A3_3.out hb)
  have x4 := hide hv4
  clear hv4
  clear hb k0 k1 k2 k3 k4
  obtain ⟨k0, k1, k2, k3, k4⟩ := blk5 Ix.out
  have u0 := Ox.out
  obtain ⟨y0, y1, y2, y3, y4⟩ := blk5 u0
  have yf : ∀ i, w4.frozen? ⟨w.heap.size + 2, i, none⟩ = false := fun i => frzO u0 i
  clear u0
  go_upto_region 6 with fail
  obtain ⟨W4, hW⟩ : ∃ x, (w4).setCell ⟨w.heap.size + 2, 3, none⟩ (.slice (some ⟨W3.heap.size, 0, none⟩) nG nG) = x := ⟨_, rfl⟩
  have BB4 : Hid (Below w.heap.size w W4) := by rw [← hW]; exact hide (Bx.out.setCell (p := ⟨w.heap.size + 2, 3, none⟩) (by show w.heap.size ≤ w.heap.size + 2; omega) _)
  have I4 : Hid (W4.heap[w.heap.size]? = some (tlL aT nT cT aH nH cH aL nL cL aG nG cG aN nN cN)) := by rw [← hW]; exact hide ((Below.heap_setCell _ _ _ _ (show w.heap.size ≠ w.heap.size + 2 by omega)).trans Ix.out)
  have R4 : Hid (W4.heap[w.heap.size + 1]? = some zT) := by rw [← hW]; exact hide ((Below.heap_setCell _ _ _ _ (show w.heap.size + 1 ≠ w.heap.size + 2 by omega)).trans Rx.out)
  have O4 : Hid (W4.heap[w.heap.size + 2]? = some (.cells #[.slice (some ⟨W0.heap.size, 0, none⟩) nT nT, .slice (some ⟨W1.heap.size, 0, none⟩) nH nH, .slice (some ⟨W2.heap.size, 0, none⟩) nL nL, .slice (some ⟨W3.heap.size, 0, none⟩) nG nG, .slice none 0 0] 33 (0, 0))) := by rw [← hW]; exact hide ((heap_boxO Ox.out 3 (.slice (some ⟨W3.heap.size, 0, none⟩) nG nG)).trans rfl)
  have Zs4 : Hid (W3.heap.size ≤ W4.heap.size) := by rw [← hW]; exact hide (by simp; exact zb)
  have A0_4 : Hid (OwnSS W4 W0.heap.size m.T gg nT) := by rw [← hW]; exact hide (ownSS_setO y0_.out ⟨w.heap.size + 2, 3, none⟩ (.slice (some ⟨W3.heap.size, 0, none⟩) nG nG) (by show w.heap.size + 2 < _; have := HZ.out; have := Zs1.out; have := Zs2.out; have := Zs3.out; omega))
  have A1_4 : Hid (W4.ownsRow W0.heap.size 58 1 (.slice (some ⟨W0.heap.size, 0, none⟩) nT nT) nT vs) := by rw [← hW]; exact hide (own_setO x1.out ⟨w.heap.size + 2, 3, none⟩ (.slice (some ⟨W3.heap.size, 0, none⟩) nG nG) (by show w.heap.size + 2 < _; have := HZ.out; have := Zs1.out; have := Zs2.out; have := Zs3.out; omega))
  have A2_4 : Hid (W4.ownsRow W1.heap.size 3 1 (.slice (some ⟨W1.heap.size, 0, none⟩) nH nH) nH (m.hd.map (Value.int .i64))) := by rw [← hW]; exact hide (own_setO x2.out ⟨w.heap.size + 2, 3, none⟩ (.slice (some ⟨W3.heap.size, 0, none⟩) nG nG) (by show w.heap.size + 2 < _; have := HZ.out; have := Zs1.out; have := Zs2.out; have := Zs3.out; omega))
  have A3_4 : Hid (W4.ownsRow W2.heap.size 77 4 (.slice (some ⟨W2.heap.size, 0, none⟩) nL nL) nL (flat4 m.ln)) := by rw [← hW]; exact hide (own_setO x3.out ⟨w.heap.size + 2, 3, none⟩ (.slice (some ⟨W3.heap.size, 0, none⟩) nG nG) (by show w.heap.size + 2 < _; have := HZ.out; have := Zs1.out; have := Zs2.out; have := Zs3.out; omega))
  have A4_4 : Hid (W4.ownsRow W3.heap.size 75 3 (.slice (some ⟨W3.heap.size, 0, none⟩) nG nG) nG (flat3 m.lg)) := by rw [← hW]; exact hide (own_setO x4.out ⟨w.heap.size + 2, 3, none⟩ (.slice (some ⟨W3.heap.size, 0, none⟩) nG nG) (by show w.heap.size + 2 < _; have := HZ.out; have := Zs1.out; have := Zs2.out; have := Zs3.out; omega))
  rw [hW]
  clear hW Bx Ix Rx Ox zb y0 y1 y2 y3 y4 yf y0_ x1 x2 x3 x4 k0 k1 k2 k3 k4
  obtain ⟨k0, k1, k2, k3, k4⟩ := blk5 I4.out
  go_wp2_with fail
  refine (C5.out _ BB4.out).mono ?_
  rintro e w5 ⟨rfl, hv5, hb⟩
  have zb := hb.size
  have Bx := hide (BB4.out.trans (hb.mono BB4.out.size))
  have Ix := hide ((hb.block w.heap.size (Array.getElem?_eq_some_iff.1 I4.out).1).trans I4.out)
  have Rx := hide ((hb.block (w.heap.size + 1) (Array.getElem?_eq_some_iff.1 R4.out).1).trans R4.out)
  have Ox := hide ((hb.block (w.heap.size + 2) (Array.getElem?_eq_some_iff.1 O4.out).1).trans O4.out)
  have y0_ := hide (A0_4.out.below hb)
  have x1 := hide (own_belO A1_4.out hb)
  have x2 := hide (own_belO A2_4.out hb)
  have x3 := hide (own_belO A3_4.out hb)
  have x4 := hide (own_belO A4_4.out hb)
  have x5 := hide hv5
  clear hv5
  clear hb k0 k1 k2 k3 k4
  obtain ⟨k0, k1, k2, k3, k4⟩ := blk5 Ix.out
  have u0 := Ox.out
  obtain ⟨y0, y1, y2, y3, y4⟩ := blk5 u0
  have yf : ∀ i, w5.frozen? ⟨w.heap.size + 2, i, none⟩ = false := fun i => frzO u0 i
  clear u0
  go_upto_region 7 with fail
  obtain ⟨W5, hW⟩ : ∃ x, (w5).setCell ⟨w.heap.size + 2, 4, none⟩ (.slice (some ⟨W4.heap.size, 0, none⟩) nN nN) = x := ⟨_, rfl⟩
  have BB5 : Hid (Below w.heap.size w W5) := by rw [← hW]; exact hide (Bx.out.setCell (p := ⟨w.heap.size + 2, 4, none⟩) (by show w.heap.size ≤ w.heap.size + 2; omega) _)
  have I5 : Hid (W5.heap[w.heap.size]? = some (tlL aT nT cT aH nH cH aL nL cL aG nG cG aN nN cN)) := by rw [← hW]; exact hide ((Below.heap_setCell _ _ _ _ (show w.heap.size ≠ w.heap.size + 2 by omega)).trans Ix.out)
  have R5 : Hid (W5.heap[w.heap.size + 1]? = some zT) := by rw [← hW]; exact hide ((Below.heap_setCell _ _ _ _ (show w.heap.size + 1 ≠ w.heap.size + 2 by omega)).trans Rx.out)
  have O5 : Hid (W5.heap[w.heap.size + 2]? = some (.cells #[.slice (some ⟨W0.heap.size, 0, none⟩) nT nT, .slice (some ⟨W1.heap.size, 0, none⟩) nH nH, .slice (some ⟨W2.heap.size, 0, none⟩) nL nL, .slice (some ⟨W3.heap.size, 0, none⟩) nG nG, .slice (some ⟨W4.heap.size, 0, none⟩) nN nN] 33 (0, 0))) := by rw [← hW]; exact hide ((heap_boxO Ox.out 4 (.slice (some ⟨W4.heap.size, 0, none⟩) nN nN)).trans rfl)
  have Zs5 : Hid (W4.heap.size ≤ W5.heap.size) := by rw [← hW]; exact hide (by simp; exact zb)
  have A0_5 : Hid (OwnSS W5 W0.heap.size m.T gg nT) := by rw [← hW]; exact hide (ownSS_setO y0_.out ⟨w.heap.size + 2, 4, none⟩ (.slice (some ⟨W4.heap.size, 0, none⟩) nN nN) (by show w.heap.size + 2 < _; have := HZ.out; have := Zs1.out; have := Zs2.out; have := Zs3.out; have := Zs4.out; omega))
  have A1_5 : Hid (W5.ownsRow W0.heap.size 58 1 (.slice (some ⟨W0.heap.size, 0, none⟩) nT nT) nT vs) := by rw [← hW]; exact hide (own_setO x1.out ⟨w.heap.size + 2, 4, none⟩ (.slice (some ⟨W4.heap.size, 0, none⟩) nN nN) (by show w.heap.size + 2 < _; have := HZ.out; have := Zs1.out; have := Zs2.out; have := Zs3.out; have := Zs4.out; omega))
  have A2_5 : Hid (W5.ownsRow W1.heap.size 3 1 (.slice (some ⟨W1.heap.size, 0, none⟩) nH nH) nH (m.hd.map (Value.int .i64))) := by rw [← hW]; exact hide (own_setO x2.out ⟨w.heap.size + 2, 4, none⟩ (.slice (some ⟨W4.heap.size, 0, none⟩) nN nN) (by show w.heap.size + 2 < _; have := HZ.out; have := Zs1.out; have := Zs2.out; have := Zs3.out; have := Zs4.out; omega))
  have A3_5 : Hid (W5.ownsRow W2.heap.size 77 4 (.slice (some ⟨W2.heap.size, 0, none⟩) nL nL) nL (flat4 m.ln)) := by rw [← hW]; exact hide (own_setO x3.out ⟨w.heap.size + 2, 4, none⟩ (.slice (some ⟨W4.heap.size, 0, none⟩) nN nN) (by show w.heap.size + 2 < _; have := HZ.out; have := Zs1.out; have := Zs2.out; have := Zs3.out; have := Zs4.out; omega))
  have A4_5 : Hid (W5.ownsRow W3.heap.size 75 3 (.slice (some ⟨W3.heap.size, 0, none⟩) nG nG) nG (flat3 m.lg)) := by rw [← hW]; exact hide (own_setO x4.out ⟨w.heap.size + 2, 4, none⟩ (.slice (some ⟨W4.heap.size, 0, none⟩) nN nN) (by show w.heap.size + 2 < _; have := HZ.out; have := Zs1.out; have := Zs2.out; have := Zs3.out; have := Zs4.out; omega))
  have A5_5 : Hid (W5.ownsRow W4.heap.size 3 1 (.slice (some ⟨W4.heap.size, 0, none⟩) nN nN) nN (m.nx.map (Value.int .i64))) := by rw [← hW]; exact hide (own_setO x5.out ⟨w.heap.size + 2, 4, none⟩ (.slice (some ⟨W4.heap.size, 0, none⟩) nN nN) (by show w.heap.size + 2 < _; have := HZ.out; have := Zs1.out; have := Zs2.out; have := Zs3.out; have := Zs4.out; omega))
  rw [hW]
  clear hW Bx Ix Rx Ox zb y0 y1 y2 y3 y4 yf y0_ x1 x2 x3 x4 x5 k0 k1 k2 k3 k4
  obtain ⟨k0, k1, k2, k3, k4⟩ := blk5 I5.out
  obtain ⟨y0, y1, y2, y3, y4⟩ := blk5 O5.out
  have r0 := R5.out
  obtain ⟨z0, z1, z2, z3, z4⟩ := blk5 r0
  have zf : ∀ i, W5.frozen? ⟨w.heap.size + 1, i, none⟩ = false := fun i => frzO r0 i
  clear r0
  go_wp2
  refine bodyPost_ret (v := tlV (some ⟨W0.heap.size, 0, none⟩) nT nT (some ⟨W1.heap.size, 0, none⟩) nH nH (some ⟨W2.heap.size, 0, none⟩) nL nL (some ⟨W3.heap.size, 0, none⟩) nG nG (some ⟨W4.heap.size, 0, none⟩) nN nN) ?_ rfl ?_
  · simp [results, Try.f11, go_sem, z0, z1, z2, z3, z4]
  · have q0 := HZ.out
    have q1 := Zs1.out
    have q2 := Zs2.out
    have q3 := Zs3.out
    have q4 := Zs4.out
    have q5 := Zs5.out
    have hT := five_tw (w := w) (z := w.heap.size + 1) (N := w.heap.size) (by omega) HZZ.out A0_5.out A1_5.out A2_5.out A3_5.out A4_5.out A5_5.out (by omega) (by omega) (by omega) (by omega) (by omega) (by have := HLT.out; omega)
    exact ⟨vs, _, _, _, _, _, rfl, hT _ _ _ _ _, five_bel BB5.out (by omega) _ _ _ _ _⟩
end Go.Proofs.Ythmekhhfihjclag.L10

namespace Go.Proofs.Ythmekhhfihjclag.Str
open Go.RowKit L1
set_option linter.unusedVariables false

theorem below_drewNS {N : Nat} {w w' : World} (h : Below N w w') : ∀ q, Below N w (w'.drewN q)
  | 0 => h
  | q + 1 => (below_drewNS h q).drew
set_option maxRecDepth 100000 in
set_option maxHeartbeats 2000000 in
theorem eqStringS_same (a b : Option Addr) (xs : List ByteArray) (n c1 c2 : Nat) (w : World) (hn : xs.length = n) (ha : SlS w a xs) (hb : SlS w b xs) (hn2 : n ≤ 1048576) :
    Calls Try.prog 31 #[.slice a n c1, .slice b n c2] w fun e w' => e = .returned (.bool true) ∧ Below w.heap.size w w' := by
  have HA := hide ha
  have HB := hide hb
  have HN := hide hn
  clear ha hb hn
  go_enter Try.func31, Try.ntmps31
  go_wp2
  go_loopw [5] (fun i wr => ∃ k : Nat, k ≤ n ∧ i = .int .i64 k ∧ Below w.heap.size w wr) (fun i _ => n - (intOf i).toNat)
  case atStart => exact ⟨0, Nat.zero_le _, rfl, Below.refl _ _⟩
  case round =>
    obtain ⟨k, hk, rfl, hbel⟩ := hrel
    by_cases hlt : k < n
    · obtain ⟨b1, o1, rfl, h1⟩ := HA.out k (by rw [HN.out]; exact hlt)
      obtain ⟨b2, o2, rfl, h2⟩ := HB.out k (by rw [HN.out]; exact hlt)
      have g1 := (hbel.cell (p := ⟨b1, o1 + k, none⟩) (blk_lt h1)).trans h1
      have g2 := (hbel.cell (p := ⟨b2, o2 + k, none⟩) (blk_lt h2)).trans h2
      obtain ⟨x, hx⟩ : ∃ x, x = xs.getD k e0 := ⟨_, rfl⟩
      rw [← hx] at g1 g2
      have hxx : (x.toList == x.toList) = true := by simp
      have hltI : (k : Int) < (n : Int) := by omega
      clear h1 h2 hx
      go_wp2
      go_quiet (fail)
      go_wp2
      go_roundw
      case rel => exact ⟨k + 1, by omega, by go_num, below_drewNS hbel _⟩
      case measure => simp [intOf]; omega
    · have hltI : ¬ (k : Int) < (n : Int) := by omega
      go_wp2
      go_ret
      exact ⟨rfl, hbel⟩
end Go.Proofs.Ythmekhhfihjclag.Str

namespace Go.Proofs.Ythmekhhfihjclag.Str
open Go.RowKit L1
set_option linter.unusedVariables false

theorem keepSS {wa wb : World} {B1 O1 B2 O2 N : Nat} {v1 v2 : Value} {W : World} (h : (wa.cell? ⟨B1, O1, none⟩ = some v1 ∧ wa.cell? ⟨B2, O2, none⟩ = some v2) ∧ Below N W wa) (hb : Below wa.heap.size wa wb) (hN : N ≤ W.heap.size) : (wb.cell? ⟨B1, O1, none⟩ = some v1 ∧ wb.cell? ⟨B2, O2, none⟩ = some v2) ∧ Below N W wb := by
  obtain ⟨⟨h1, h2⟩, h3⟩ := h
  exact ⟨⟨(hb.cell (p := ⟨B1, O1, none⟩) (blk_lt h1)).trans h1, (hb.cell (p := ⟨B2, O2, none⟩) (blk_lt h2)).trans h2⟩, h3.trans (hb.mono (Nat.le_trans hN h3.size))⟩
set_option maxRecDepth 100000 in
set_option maxHeartbeats 2000000 in
theorem eqStringSS_same (a b : Option Addr) (ls : List (List ByteArray)) (n c1 c2 : Nat) (w : World) (hn : ls.length = n) (ha : SlSS w a ls) (hb : SlSS w b ls) (hn2 : n ≤ 1048576) (hls : ∀ i, i < ls.length → (ls.getD i []).length ≤ 1048576) :
    Calls Try.prog 53 #[.slice a n c1, .slice b n c2] w fun e w' => e = .returned (.bool true) ∧ Below w.heap.size w w' := by
  have HA := hide ha
  have HB := hide hb
  have HN := hide hn
  have HLS := hide hls
  clear ha hb hn hls
  go_enter Try.func53, Try.ntmps53
  go_wp2
  go_loopw [5] (fun i wr => ∃ k : Nat, k ≤ n ∧ i = .int .i64 k ∧ Below w.heap.size w wr) (fun i _ => n - (intOf i).toNat)
  case atStart => exact ⟨0, Nat.zero_le _, rfl, Below.refl _ _⟩
  case round =>
    obtain ⟨k, hk, rfl, hbel⟩ := hrel
    by_cases hlt : k < n
    · obtain ⟨b1, o1, rfl, x1, q1, h1, s1⟩ := HA.out k (by rw [HN.out]; exact hlt)
      obtain ⟨b2, o2, rfl, x2, q2, h2, s2⟩ := HB.out k (by rw [HN.out]; exact hlt)
      have g1 := (hbel.cell (p := ⟨b1, o1 + k, none⟩) (blk_lt h1)).trans h1
      have g2 := (hbel.cell (p := ⟨b2, o2 + k, none⟩) (blk_lt h2)).trans h2
      have t1 := s1.below hbel
      have t2 := s2.below hbel
      have hlx := HLS.out k (by rw [HN.out]; exact hlt)
      obtain ⟨l, hl⟩ : ∃ l, l = ls.getD k [] := ⟨_, rfl⟩
      rw [← hl] at g1 g2 t1 t2 hlx
      obtain ⟨m, hmm⟩ : ∃ m, m = l.length := ⟨_, rfl⟩
      rw [← hmm] at g1 g2 hlx
      have hltI : (k : Int) < (n : Int) := by omega
      have hk0 : (0 : Int) ≤ (k : Int) := by omega
      have C := hide (fun wx (hb : Below wr.heap.size wr wx) => eqStringS_same x1 x2 l m q1 q2 wx hmm.symm (t1.below hb) (t2.below hb) hlx)
      clear h1 h2 s1 s2 t1 t2 hl hmm
      go_wp2
      go_region_held3 (fun wx => (wx.cell? ⟨b1, o1 + k, none⟩ = some (.slice x1 m q1) ∧ wx.cell? ⟨b2, o2 + k, none⟩ = some (.slice x2 m q2)) ∧ Below wr.heap.size wr wx) (first | exact ⟨⟨g1, g2⟩, (Below.refl _ _).drew⟩ | exact keepSS (by assumption) (by assumption) (Nat.le_refl _)) ((go_at_call 31; refine (C.out _ (by first | exact And.right (by assumption) | exact (Below.refl _ _).drew | exact Below.refl _ _)).mono ?_; rintro e w1 ⟨rfl, hb⟩))
      rename_i hHeld
      have B1 := hide (hbel.trans (hHeld.2.mono hbel.size))
      clear hHeld
      go_wp2
      go_roundw
      case rel => exact ⟨k + 1, by omega, by go_num, B1.out⟩
      case measure => simp [intOf]; omega
    · have hltI : ¬ (k : Int) < (n : Int) := by omega
      go_wp2
      go_ret
      exact ⟨rfl, hbel⟩
end Go.Proofs.Ythmekhhfihjclag.Str

namespace Go.Proofs.Ythmekhhfihjclag.Tri
open Go.RowKit L1
set_option linter.unusedVariables false

set_option maxRecDepth 100000 in
set_option maxHeartbeats 400000 in
theorem eqTold_same (x z : Int) (y : ByteArray) (w : World) :
    Calls Try.prog 89 #[.agg #[.int .i64 x, .int .i64 z, .string y], .agg #[.int .i64 x, .int .i64 z, .string y]] w fun e w' => e = .returned (.bool true) ∧ Below w.heap.size w w' := by
  go_enter Try.func89, Try.ntmps89
  go_wp2
  go_ret
  exact ⟨rfl, ((Below.refl _ _).alloc (Nat.le_refl _) _).alloc (by simp) _⟩

theorem keep6Told {wa wb : World} {B1 O1 B2 O2 N : Nat} {v1 v2 v3 v4 v5 v6 : Value} {W : World} (h : wa.cell? ⟨B1, O1, none⟩ = some v1 ∧ wa.cell? ⟨B1, O1 + 1, none⟩ = some v2 ∧ wa.cell? ⟨B1, O1 + 2, none⟩ = some v3 ∧ wa.cell? ⟨B2, O2, none⟩ = some v4 ∧ wa.cell? ⟨B2, O2 + 1, none⟩ = some v5 ∧ wa.cell? ⟨B2, O2 + 2, none⟩ = some v6 ∧ Below N W wa) (hb : Below wa.heap.size wa wb) (hN : N ≤ W.heap.size) :
    wb.cell? ⟨B1, O1, none⟩ = some v1 ∧ wb.cell? ⟨B1, O1 + 1, none⟩ = some v2 ∧ wb.cell? ⟨B1, O1 + 2, none⟩ = some v3 ∧ wb.cell? ⟨B2, O2, none⟩ = some v4 ∧ wb.cell? ⟨B2, O2 + 1, none⟩ = some v5 ∧ wb.cell? ⟨B2, O2 + 2, none⟩ = some v6 ∧ Below N W wb := by
  obtain ⟨h1, h2, h3, h4, h5, h6, h7⟩ := h
  exact ⟨(hb.cell (p := ⟨B1, O1, none⟩) (blk_lt h1)).trans h1, (hb.cell (p := ⟨B1, O1 + 1, none⟩) (blk_lt h2)).trans h2, (hb.cell (p := ⟨B1, O1 + 2, none⟩) (blk_lt h3)).trans h3, (hb.cell (p := ⟨B2, O2, none⟩) (blk_lt h4)).trans h4, (hb.cell (p := ⟨B2, O2 + 1, none⟩) (blk_lt h5)).trans h5, (hb.cell (p := ⟨B2, O2 + 2, none⟩) (blk_lt h6)).trans h6, h7.trans (hb.mono (Nat.le_trans hN h7.size))⟩

set_option maxRecDepth 100000 in
set_option maxHeartbeats 1000000 in
theorem eqToldS_same (a b : Option Addr) (xs : List Tr) (n c1 c2 : Nat) (w : World) (hn : xs.length = n) (ha : Sl3 w a xs) (hb : Sl3 w b xs) (hn2 : n ≤ 1048576) :
    Calls Try.prog 56 #[.slice a n c1, .slice b n c2] w fun e w' => e = .returned (.bool true) ∧ Below w.heap.size w w' := by
  have HA := hide ha
  have HB := hide hb
  have HN := hide hn
  clear ha hb hn
  go_enter Try.func56, Try.ntmps56
  go_wp2
  go_loopw [5] (fun i wr => ∃ k : Nat, k ≤ n ∧ i = .int .i64 k ∧ Below w.heap.size w wr) (fun i _ => n - (intOf i).toNat)
  case atStart => exact ⟨0, Nat.zero_le _, rfl, Below.refl _ _⟩
  case round =>
    obtain ⟨k, hk, rfl, hbel⟩ := hrel
    by_cases hlt : k < n
    · obtain ⟨b1, o1, rfl, h1, h1', h1''⟩ := HA.out k (by rw [HN.out]; exact hlt)
      obtain ⟨b2, o2, rfl, h2, h2', h2''⟩ := HB.out k (by rw [HN.out]; exact hlt)
      have g1 := (hbel.cell (p := ⟨b1, o1 + k * 3, none⟩) (blk_lt h1)).trans h1
      have g1' := (hbel.cell (p := ⟨b1, o1 + k * 3 + 1, none⟩) (blk_lt h1')).trans h1'
      have g1'' := (hbel.cell (p := ⟨b1, o1 + k * 3 + 2, none⟩) (blk_lt h1'')).trans h1''
      have g2 := (hbel.cell (p := ⟨b2, o2 + k * 3, none⟩) (blk_lt h2)).trans h2
      have g2' := (hbel.cell (p := ⟨b2, o2 + k * 3 + 1, none⟩) (blk_lt h2')).trans h2'
      have g2'' := (hbel.cell (p := ⟨b2, o2 + k * 3 + 2, none⟩) (blk_lt h2'')).trans h2''
      obtain ⟨x, hx⟩ : ∃ x, x = (xs.getD k e3).1 := ⟨_, rfl⟩
      obtain ⟨z, hz⟩ : ∃ z, z = (xs.getD k e3).2.1 := ⟨_, rfl⟩
      obtain ⟨y, hy⟩ : ∃ y, y = (xs.getD k e3).2.2 := ⟨_, rfl⟩
      rw [← hx] at g1 g2
      rw [← hz] at g1' g2'
      rw [← hy] at g1'' g2''
      have hltI : (k : Int) < (n : Int) := by omega
      have hk0 : (0 : Int) ≤ (k : Int) := by omega
      clear h1 h2 h1' h2' h1'' h2'' hx hy hz
      go_wp2
      go_region_held3 (fun wx => wx.cell? ⟨b1, o1 + k * 3, none⟩ = some (.int .i64 x) ∧ wx.cell? ⟨b1, o1 + k * 3 + 1, none⟩ = some (.int .i64 z) ∧ wx.cell? ⟨b1, o1 + k * 3 + 2, none⟩ = some (.string y) ∧ wx.cell? ⟨b2, o2 + k * 3, none⟩ = some (.int .i64 x) ∧ wx.cell? ⟨b2, o2 + k * 3 + 1, none⟩ = some (.int .i64 z) ∧ wx.cell? ⟨b2, o2 + k * 3 + 2, none⟩ = some (.string y) ∧ Below wr.heap.size wr wx) (first | exact ⟨g1, g1', g1'', g2, g2', g2'', (Below.refl _ _).drew⟩ | exact keep6Told (by assumption) (by assumption) (Nat.le_refl _)) ((go_at_call 89; refine (eqTold_same x z y _).mono ?_; rintro e w1 ⟨rfl, hb⟩))
      rename_i hHeld
      have B1 := hide (hbel.trans (hHeld.2.2.2.2.2.2.mono hbel.size))
      clear hHeld
      go_wp2
      go_roundw
      case rel => exact ⟨k + 1, by omega, by go_num, B1.out⟩
      case measure => simp [intOf]; omega
    · have hltI : ¬ (k : Int) < (n : Int) := by omega
      go_wp2
      go_ret
      exact ⟨rfl, hbel⟩
end Go.Proofs.Ythmekhhfihjclag.Tri

namespace Go.Proofs.Ythmekhhfihjclag.Nte
open Go.RowKit L1 Tri
set_option linter.unusedVariables false

set_option maxRecDepth 100000 in
set_option maxHeartbeats 1000000 in
theorem eqNote_same (q : Bool) (x z : Int) (y : ByteArray) (w : World) :
    Calls Try.prog 88 #[.agg #[.bool q, .int .i64 x, .int .i64 z, .string y], .agg #[.bool q, .int .i64 x, .int .i64 z, .string y]] w fun e w' => e = .returned (.bool true) ∧ Below w.heap.size w w' := by
  have HB : Hid (∀ A B, Below w.heap.size w ((w.alloc A).alloc B)) := hide (fun A B => ((Below.refl _ _).alloc (Nat.le_refl _) _).alloc (by simp) _)
  go_enter Try.func88, Try.ntmps88
  go_wp2_with fail
  refine (eqTold_same x z y _).mono ?_
  rintro e w1 ⟨rfl, hb⟩
  have B := hide ((HB.out _ _).trans (hb.mono (HB.out _ _).size))
  clear hb
  go_wp2
  go_ret
  exact ⟨rfl, B.out⟩

theorem keep8N {wa wb : World} {B1 O1 B2 O2 N : Nat} {v1 v2 v3 v4 v5 v6 v7 v8 : Value} {W : World} (h : wa.cell? ⟨B1, O1, none⟩ = some v1 ∧ wa.cell? ⟨B1, O1 + 1, none⟩ = some v2 ∧ wa.cell? ⟨B1, O1 + 2, none⟩ = some v3 ∧ wa.cell? ⟨B1, O1 + 3, none⟩ = some v4 ∧ wa.cell? ⟨B2, O2, none⟩ = some v5 ∧ wa.cell? ⟨B2, O2 + 1, none⟩ = some v6 ∧ wa.cell? ⟨B2, O2 + 2, none⟩ = some v7 ∧ wa.cell? ⟨B2, O2 + 3, none⟩ = some v8 ∧ Below N W wa) (hb : Below wa.heap.size wa wb) (hN : N ≤ W.heap.size) :
    wb.cell? ⟨B1, O1, none⟩ = some v1 ∧ wb.cell? ⟨B1, O1 + 1, none⟩ = some v2 ∧ wb.cell? ⟨B1, O1 + 2, none⟩ = some v3 ∧ wb.cell? ⟨B1, O1 + 3, none⟩ = some v4 ∧ wb.cell? ⟨B2, O2, none⟩ = some v5 ∧ wb.cell? ⟨B2, O2 + 1, none⟩ = some v6 ∧ wb.cell? ⟨B2, O2 + 2, none⟩ = some v7 ∧ wb.cell? ⟨B2, O2 + 3, none⟩ = some v8 ∧ Below N W wb := by
  obtain ⟨h1, h2, h3, h4, h5, h6, h7, h8, h9⟩ := h
  exact ⟨(hb.cell (p := ⟨B1, O1, none⟩) (blk_lt h1)).trans h1, (hb.cell (p := ⟨B1, O1 + 1, none⟩) (blk_lt h2)).trans h2, (hb.cell (p := ⟨B1, O1 + 2, none⟩) (blk_lt h3)).trans h3, (hb.cell (p := ⟨B1, O1 + 3, none⟩) (blk_lt h4)).trans h4, (hb.cell (p := ⟨B2, O2, none⟩) (blk_lt h5)).trans h5, (hb.cell (p := ⟨B2, O2 + 1, none⟩) (blk_lt h6)).trans h6, (hb.cell (p := ⟨B2, O2 + 2, none⟩) (blk_lt h7)).trans h7, (hb.cell (p := ⟨B2, O2 + 3, none⟩) (blk_lt h8)).trans h8, h9.trans (hb.mono (Nat.le_trans hN h9.size))⟩
set_option maxRecDepth 100000 in
set_option maxHeartbeats 1000000 in
theorem eqNoteS_same (a b : Option Addr) (xs : List Nt) (n c1 c2 : Nat) (w : World) (hn : xs.length = n) (ha : Sl4 w a xs) (hb : Sl4 w b xs) (hn2 : n ≤ 1048576) :
    Calls Try.prog 55 #[.slice a n c1, .slice b n c2] w fun e w' => e = .returned (.bool true) ∧ Below w.heap.size w w' := by
  have HA := hide ha
  have HB := hide hb
  have HN := hide hn
  clear ha hb hn
  go_enter Try.func55, Try.ntmps55
  go_wp2
  go_loopw [5] (fun i wr => ∃ k : Nat, k ≤ n ∧ i = .int .i64 k ∧ Below w.heap.size w wr) (fun i _ => n - (intOf i).toNat)
  case atStart => exact ⟨0, Nat.zero_le _, rfl, Below.refl _ _⟩
  case round =>
    obtain ⟨k, hk, rfl, hbel⟩ := hrel
    by_cases hlt : k < n
    · obtain ⟨b1, o1, rfl, h1, h2, h3, h4⟩ := HA.out k (by rw [HN.out]; exact hlt)
      obtain ⟨b2, o2, rfl, h5, h6, h7, h8⟩ := HB.out k (by rw [HN.out]; exact hlt)
      have g1 := (hbel.cell (p := ⟨b1, o1 + k * 4, none⟩) (blk_lt h1)).trans h1
      have g2 := (hbel.cell (p := ⟨b1, o1 + k * 4 + 1, none⟩) (blk_lt h2)).trans h2
      have g3 := (hbel.cell (p := ⟨b1, o1 + k * 4 + 2, none⟩) (blk_lt h3)).trans h3
      have g4 := (hbel.cell (p := ⟨b1, o1 + k * 4 + 3, none⟩) (blk_lt h4)).trans h4
      have g5 := (hbel.cell (p := ⟨b2, o2 + k * 4, none⟩) (blk_lt h5)).trans h5
      have g6 := (hbel.cell (p := ⟨b2, o2 + k * 4 + 1, none⟩) (blk_lt h6)).trans h6
      have g7 := (hbel.cell (p := ⟨b2, o2 + k * 4 + 2, none⟩) (blk_lt h7)).trans h7
      have g8 := (hbel.cell (p := ⟨b2, o2 + k * 4 + 3, none⟩) (blk_lt h8)).trans h8
      obtain ⟨q, hq⟩ : ∃ q, q = (xs.getD k e4).1 := ⟨_, rfl⟩
      obtain ⟨x, hx⟩ : ∃ x, x = (xs.getD k e4).2.1 := ⟨_, rfl⟩
      obtain ⟨z, hz⟩ : ∃ z, z = (xs.getD k e4).2.2.1 := ⟨_, rfl⟩
      obtain ⟨y, hy⟩ : ∃ y, y = (xs.getD k e4).2.2.2 := ⟨_, rfl⟩
      rw [← hq] at g1 g5
      rw [← hx] at g2 g6
      rw [← hz] at g3 g7
      rw [← hy] at g4 g8
      have hltI : (k : Int) < (n : Int) := by omega
      have hk0 : (0 : Int) ≤ (k : Int) := by omega
      clear h1 h2 h3 h4 h5 h6 h7 h8 hq hx hy hz
      go_wp2
      go_region_held3 (fun wx => wx.cell? ⟨b1, o1 + k * 4, none⟩ = some (.bool q) ∧ wx.cell? ⟨b1, o1 + k * 4 + 1, none⟩ = some (.int .i64 x) ∧ wx.cell? ⟨b1, o1 + k * 4 + 2, none⟩ = some (.int .i64 z) ∧ wx.cell? ⟨b1, o1 + k * 4 + 3, none⟩ = some (.string y) ∧ wx.cell? ⟨b2, o2 + k * 4, none⟩ = some (.bool q) ∧ wx.cell? ⟨b2, o2 + k * 4 + 1, none⟩ = some (.int .i64 x) ∧ wx.cell? ⟨b2, o2 + k * 4 + 2, none⟩ = some (.int .i64 z) ∧ wx.cell? ⟨b2, o2 + k * 4 + 3, none⟩ = some (.string y) ∧ Below wr.heap.size wr wx) (first | exact ⟨g1, g2, g3, g4, g5, g6, g7, g8, (Below.refl _ _).drew⟩ | exact keep8N (by assumption) (by assumption) (Nat.le_refl _)) ((go_at_call 88; refine (eqNote_same q x z y _).mono ?_; rintro e w1 ⟨rfl, hb⟩))
      rename_i hHeld
      have B1 := hide (hbel.trans (hHeld.2.2.2.2.2.2.2.2.mono hbel.size))
      clear hHeld
      go_wp2
      go_roundw
      case rel => exact ⟨k + 1, by omega, by go_num, B1.out⟩
      case measure => simp [intOf]; omega
    · have hltI : ¬ (k : Int) < (n : Int) := by omega
      go_wp2
      go_ret
      exact ⟨rfl, hbel⟩
end Go.Proofs.Ythmekhhfihjclag.Nte

namespace Go.Proofs.Ythmekhhfihjclag.L10
open Go.RowKit L1 Own Str Nte Tri
set_option linter.unusedVariables false

set_option maxRecDepth 100000 in
set_option maxHeartbeats 4000000 in
theorem eqTell_same (aT : Option Addr) (cT : Nat) (aH : Option Addr) (cH : Nat) (aL : Option Addr) (cL : Nat) (aG : Option Addr) (cG : Nat) (aN : Option Addr) (cN : Nat) (bT : Option Addr) (dT : Nat) (bH : Option Addr) (dH : Nat) (bL : Option Addr) (dL : Nat) (bG : Option Addr) (dG : Nat) (bN : Option Addr) (dN : Nat) (nT nH nL nG nN : Nat) (m : Tm) (w : World) (hz : TlZ m nT nH nL nG nN) (h1 : TlF w aT aH aL aG aN m) (h2 : TlF w bT bH bL bG bN m) :
    Calls Try.prog 13 #[tlV aT nT cT aH nH cH aL nL cL aG nG cG aN nN cN, tlV bT nT dT bH nH dH bL nL dL bG nG dG bN nN dN] w fun e w' => e = .returned (.bool true) ∧ Below w.heap.size w w' := by
  obtain ⟨W0, hW0⟩ : ∃ W0, (w.alloc (tlO aT nT cT aH nH cH aL nL cL aG nG cG aN nN cN)).alloc (tlO bT nT dT bH nH dH bL nL dL bG nG dG bN nN dN) = W0 := ⟨_, rfl⟩
  have BX : Hid (Below w.heap.size w W0) := by rw [← hW0]; exact hide (((Below.refl _ _).alloc (Nat.le_refl _) _).alloc (by simp) _)
  have G0 : Hid (W0.heap[w.heap.size]? = some (tlO aT nT cT aH nH cH aL nL cL aG nG cG aN nN cN)) := by
    rw [← hW0]
    exact hide ((((Below.refl (w.alloc (tlO aT nT cT aH nH cH aL nL cL aG nG cG aN nN cN)).heap.size _).alloc (Nat.le_refl _) _).block w.heap.size (by simp)).trans (blk_newO _ _))
  have H0 : Hid (W0.heap[w.heap.size + 1]? = some (tlO bT nT dT bH nH dH bL nL dL bG nG dG bN nN dN)) := by
    rw [← hW0]
    have := blk_newO (w.alloc (tlO aT nT cT aH nH cH aL nL cL aG nG cG aN nN cN)) (tlO bT nT dT bH nH dH bL nL dL bG nG dG bN nN dN)
    rw [World.size_alloc] at this
    exact hide this
  have C1 := hide (fun wx (hb : Below w.heap.size w wx) => eqStringSS_same aT bT m.T nT cT dT wx hz.t (h1.t.below hb) (h2.t.below hb) hz.bt hz.bs)
  have C2 := hide (fun wx (hb : Below w.heap.size w wx) => eqIntS_same aH bH m.hd nH cH dH wx hz.h (h1.h.below hb) (h2.h.below hb) hz.bh)
  have C3 := hide (fun wx (hb : Below w.heap.size w wx) => eqNoteS_same aL bL m.ln nL cL dL wx hz.l (h1.l.below hb) (h2.l.below hb) hz.bl)
  have C4 := hide (fun wx (hb : Below w.heap.size w wx) => eqToldS_same aG bG m.lg nG cG dG wx hz.g (h1.g.below hb) (h2.g.below hb) hz.bg)
  have C5 := hide (fun wx (hb : Below w.heap.size w wx) => eqIntS_same aN bN m.nx nN cN dN wx hz.n (h1.n.below hb) (h2.n.below hb) hz.bn)
  have HW := hide hW0
  clear hW0 h1 h2 hz
  obtain ⟨k0, k1, k2, k3, k4⟩ := blk5 G0.out
  obtain ⟨j0, j1, j2, j3, j4⟩ := blk5 H0.out
  go_enter Try.func13, Try.ntmps13
  go_upto_region 1 with fail
  rw [HW.out]
  clear HW
  go_wp2_with fail
  refine (C1.out _ BX.out).mono ?_
  rintro e w1 ⟨rfl, hb⟩
  have B1 := hide (BX.out.trans (hb.mono BX.out.size))
  have G1 := hide ((hb.block w.heap.size (Array.getElem?_eq_some_iff.1 G0.out).1).trans G0.out)
  have H1 := hide ((hb.block (w.heap.size + 1) (Array.getElem?_eq_some_iff.1 H0.out).1).trans H0.out)
  clear hb k0 k1 k2 k3 k4 j0 j1 j2 j3 j4
  obtain ⟨k0, k1, k2, k3, k4⟩ := blk5 G1.out
  obtain ⟨j0, j1, j2, j3, j4⟩ := blk5 H1.out
  go_wp2_with fail
  refine (C2.out _ B1.out).mono ?_
  rintro e w2 ⟨rfl, hb⟩
  have B2 := hide (B1.out.trans (hb.mono B1.out.size))
  have G2 := hide ((hb.block w.heap.size (Array.getElem?_eq_some_iff.1 G1.out).1).trans G1.out)
  have H2 := hide ((hb.block (w.heap.size + 1) (Array.getElem?_eq_some_iff.1 H1.out).1).trans H1.out)
  clear hb k0 k1 k2 k3 k4 j0 j1 j2 j3 j4
  obtain ⟨k0, k1, k2, k3, k4⟩ := blk5 G2.out
  obtain ⟨j0, j1, j2, j3, j4⟩ := blk5 H2.out
  go_wp2_with fail
  refine (C3.out _ B2.out).mono ?_
  rintro e w3 ⟨rfl, hb⟩
  have B3 := hide (B2.out.trans (hb.mono B2.out.size))
  have G3 := hide ((hb.block w.heap.size (Array.getElem?_eq_some_iff.1 G2.out).1).trans G2.out)
  have H3 := hide ((hb.block (w.heap.size + 1) (Array.getElem?_eq_some_iff.1 H2.out).1).trans H2.out)
  clear hb k0 k1 k2 k3 k4 j0 j1 j2 j3 j4
  obtain ⟨k0, k1, k2, k3, k4⟩ := blk5 G3.out
  obtain ⟨j0, j1, j2, j3, j4⟩ := blk5 H3.out
  go_wp2_with fail
  refine (C4.out _ B3.out).mono ?_
  rintro e w4 ⟨rfl, hb⟩
  have B4 := hide (B3.out.trans (hb.mono B3.out.size))
  have G4 := hide ((hb.block w.heap.size (Array.getElem?_eq_some_iff.1 G3.out).1).trans G3.out)
  have H4 := hide ((hb.block (w.heap.size + 1) (Array.getElem?_eq_some_iff.1 H3.out).1).trans H3.out)
  clear hb k0 k1 k2 k3 k4 j0 j1 j2 j3 j4
  obtain ⟨k0, k1, k2, k3, k4⟩ := blk5 G4.out
  obtain ⟨j0, j1, j2, j3, j4⟩ := blk5 H4.out
  go_wp2_with fail
  refine (C5.out _ B4.out).mono ?_
  rintro e w5 ⟨rfl, hb⟩
  have B5 := hide (B4.out.trans (hb.mono B4.out.size))
  have G5 := hide ((hb.block w.heap.size (Array.getElem?_eq_some_iff.1 G4.out).1).trans G4.out)
  have H5 := hide ((hb.block (w.heap.size + 1) (Array.getElem?_eq_some_iff.1 H4.out).1).trans H4.out)
  clear hb k0 k1 k2 k3 k4 j0 j1 j2 j3 j4
  obtain ⟨k0, k1, k2, k3, k4⟩ := blk5 G5.out
  obtain ⟨j0, j1, j2, j3, j4⟩ := blk5 H5.out
  go_wp2
  go_ret
  exact ⟨rfl, B5.out⟩
end Go.Proofs.Ythmekhhfihjclag.L10
