/-
  Contract of the laws' own helper toTell: a copy in memory of its own.
-/
import Derived.Test.YthmekhhfihjclagL10Mem
import Derived.Test.YthmekhhfihjclagL10Size
import Derived.Test.YthmekhhfihjclagSSTo
import Derived.Test.YthmekhhfihjclagNoteTo
import Derived.Test.YthmekhhfihjclagTriToldTo
import Derived.Test.YthmekhhfihjclagL1Lists
import Derived.Deep.DeepCutAuto
namespace Go.Proofs.Ythmekhhfihjclag.L10
open Go.RowKit L1 Own Str Nte Tri
set_option linter.unusedVariables false

abbrev five (w : World) (z : Nat) (v0 v1 v2 v3 v4 : Value) : World := ((((w.setCell ⟨z, 0, none⟩ v0).setCell ⟨z, 1, none⟩ v1).setCell ⟨z, 2, none⟩ v2).setCell ⟨z, 3, none⟩ v3).setCell ⟨z, 4, none⟩ v4
theorem five_bel {N : Nat} {w w' : World} {z : Nat} (h : Below N w w') (hz : N ≤ z) (v0 v1 v2 v3 v4 : Value) : Below N w (five w' z v0 v1 v2 v3 v4) :=
  ((((h.setCell (p := ⟨z, 0, none⟩) hz _).setCell (p := ⟨z, 1, none⟩) hz _).setCell (p := ⟨z, 2, none⟩) hz _).setCell (p := ⟨z, 3, none⟩) hz _).setCell (p := ⟨z, 4, none⟩) hz _
theorem five_blk {w : World} {z q : Nat} (v0 v1 v2 v3 v4 : Value) (h : q ≠ z) : (five w z v0 v1 v2 v3 v4).heap[q]? = w.heap[q]? := by
  unfold five
  rw [Below.heap_setCell _ _ _ _ h, Below.heap_setCell _ _ _ _ h, Below.heap_setCell _ _ _ _ h, Below.heap_setCell _ _ _ _ h, Below.heap_setCell _ _ _ _ h]
theorem five_size (w : World) (z : Nat) (v0 v1 v2 v3 v4 : Value) : (five w z v0 v1 v2 v3 v4).heap.size = w.heap.size := by unfold five; simp
theorem ownSS_setO {w : World} {B : Nat} {ls : List (List ByteArray)} {g : Nat → Nat} {m : Nat} (h : OwnSS w B ls g m) (p : Addr) (u : Value) (hp : p.block < B) : OwnSS (w.setCell p u) B ls g m :=
  ⟨fun i hi => by rw [World.cell?_setCell_other _ _ _ _ (fun e => by have e' := congrArg Addr.block e; simp at e'; omega)]; exact h.cell i hi, fun i hi => own_setO (h.own i hi) p u (by omega), h.rise, fun i hi => by simp; exact h.lt i hi⟩
/-- The copies of the five fields are a world of its own. -/
theorem five_tw {w W5 : World} {z N : Nat} {b0 b1 b2 b3 b4 : Nat} {m : Tm} {nT nH nL nG nN : Nat} {gg : Nat → Nat} {vs : List Value} (hNz : N ≤ z) (hz : TlZ m nT nH nL nG nN) (h0 : OwnSS W5 b0 m.T gg nT) (h1 : W5.ownsRow b0 58 1 (.slice (some ⟨b0, 0, none⟩) nT nT) nT vs) (h2 : W5.ownsRow b1 3 1 (.slice (some ⟨b1, 0, none⟩) nH nH) nH (m.hd.map (Value.int .i64))) (h3 : W5.ownsRow b2 77 4 (.slice (some ⟨b2, 0, none⟩) nL nL) nL (flat4 m.ln)) (h4 : W5.ownsRow b3 75 3 (.slice (some ⟨b3, 0, none⟩) nG nG) nG (flat3 m.lg)) (h5 : W5.ownsRow b4 3 1 (.slice (some ⟨b4, 0, none⟩) nN nN) nN (m.nx.map (Value.int .i64)))
    (hb0 : z < b0) (hb1 : z < b1) (hb2 : z < b2) (hb3 : z < b3) (hb4 : z < b4) (hd : b1 ≠ b4) (v0 v1 v2 v3 v4 : Value) :
    TW (five W5 z v0 v1 v2 v3 v4) (fun q => N ≤ q ∧ q < (five W5 z v0 v1 v2 v3 v4).heap.size) vs (.slice (some ⟨b0, 0, none⟩) nT nT) (.slice (some ⟨b1, 0, none⟩) nH nH) (.slice (some ⟨b2, 0, none⟩) nL nL) (.slice (some ⟨b3, 0, none⟩) nG nG) (.slice (some ⟨b4, 0, none⟩) nN nN) m := by
  have hl : ∀ {base c n : Nat} {t : TypeId} {v : Value} {xs : List Value}, W5.ownsRow base t c v n xs → z < base → (five W5 z v0 v1 v2 v3 v4).ownsRow 0 t c v n xs := fun ho hb => own_zero (own_at ho fun q hq => five_blk _ _ _ _ _ (fun e => by have := own_ge ho q hq; omega))
  have ins : ∀ {base c n : Nat} {t : TypeId} {v : Value} {xs : List Value}, W5.ownsRow base t c v n xs → z < base → InS (fun q => N ≤ q ∧ q < (five W5 z v0 v1 v2 v3 v4).heap.size) v := fun ho hb q hq => ⟨by have := own_ge ho q hq; omega, by rw [five_size]; exact own_ltO ho q hq⟩
  have hvl : vs.length = nT := by have := h1.1; omega
  have hV : ∀ i, i < m.T.length → vs.getD i nilV = .slice (some ⟨gg i, 0, none⟩) (m.T.getD i []).length (m.T.getD i []).length := fun i hi => by
    have hi' : i < nT := by rw [← hz.t]; exact hi
    have hc := h0.cell i hi'
    have hu : vs[i]? = some (vs.getD i nilV) := by simp [List.getD, List.getElem?_eq_getElem (show i < vs.length by omega)]
    have hc2 := own_cellO h1 i _ hu
    rw [hc] at hc2
    exact (Option.some.inj hc2).symm
  have ho : ∀ i, i < m.T.length → W5.ownsRow (b0 + 1) 9 1 (vs.getD i nilV) (m.T.getD i []).length (mapS (m.T.getD i [])) := fun i hi => by
    rw [hV i hi]
    exact h0.own i (by rw [← hz.t]; exact hi)
  refine ⟨by rw [hz.t]; exact hl h1 hb0, fun i hi => hl (ho i hi) (by omega), fun i k q hi hk hik e e2 => ?_, by rw [hz.h]; exact hl h2 hb1, by rw [hz.l]; exact hl h3 hb2, by rw [hz.g]; exact hl h4 hb3, by rw [hz.n]; exact hl h5 hb4, fun q e e2 => ?_, ins h1 hb0, fun i hi => ins (ho i hi) (by omega), ins h2 hb1, ins h3 hb2, ins h4 hb3, ins h5 hb4⟩
  · rw [hV i hi] at e
    rw [hV k hk] at e2
    have e' : gg i = q := Option.some.inj e
    have e2' : gg k = q := Option.some.inj e2
    have hi' : i < nT := by rw [← hz.t]; exact hi
    have hk' : k < nT := by rw [← hz.t]; exact hk
    rcases Nat.lt_or_gt_of_ne hik with h | h
    · have := h0.rise i k h hk'; omega
    · have := h0.rise k i h hi'; omega
  · have e' : b1 = q := Option.some.inj e
    have e2' : b4 = q := Option.some.inj e2
    omega
set_option maxRecDepth 100000 in
set_option maxHeartbeats 4000000 in
theorem toTell_any (aT : Option Addr) (nT cT : Nat) (aH : Option Addr) (nH cH : Nat) (aL : Option Addr) (nL cL : Nat) (aG : Option Addr) (nG cG : Nat) (aN : Option Addr) (nN cN : Nat) (m : Tm) (w : World) (hz : TlZ m nT nH nL nG nN) (h1 : TlF w aT aH aL aG aN m) :
    Calls Try.prog 11 #[tlV aT nT cT aH nH cH aL nL cL aG nG cG aN nN cN] w fun e w' => ∃ V a0 a1 a2 a3 a4, e = .returned (tlV a0 nT nT a1 nH nH a2 nL nL a3 nG nG a4 nN nN) ∧ TW w' (fun q => w.heap.size ≤ q ∧ q < w'.heap.size) V (.slice a0 nT nT) (.slice a1 nH nH) (.slice a2 nL nL) (.slice a3 nG nG) (.slice a4 nN nN) m ∧ Below w.heap.size w w' := by
  obtain ⟨W0, hW0⟩ : ∃ W0, ((w.alloc (tlL aT nT cT aH nH cH aL nL cL aG nG cG aN nN cN)).alloc zT).alloc zT = W0 := ⟨_, rfl⟩
  have hs0 : W0.heap.size = w.heap.size + 3 := by rw [← hW0]; simp
  have BX : Hid (Below w.heap.size w W0) := by rw [← hW0]; exact hide ((((Below.refl _ _).alloc (Nat.le_refl _) _).alloc (by simp) _).alloc (by simp; omega) _)
  have I0 : Hid (W0.heap[w.heap.size]? = some (tlL aT nT cT aH nH cH aL nL cL aG nG cG aN nN cN)) := by
    rw [← hW0]
    have hb := ((Below.refl (w.alloc (tlL aT nT cT aH nH cH aL nL cL aG nG cG aN nN cN)).heap.size (w.alloc (tlL aT nT cT aH nH cH aL nL cL aG nG cG aN nN cN))).alloc (Nat.le_refl _) zT).alloc (by simp) zT
    exact hide ((hb.block w.heap.size (by simp)).trans (blk_newO _ _))
  have R0 : Hid (W0.heap[w.heap.size + 1]? = some zT) := by
    rw [← hW0]
    have hb := (Below.refl ((w.alloc (tlL aT nT cT aH nH cH aL nL cL aG nG cG aN nN cN)).alloc zT).heap.size _).alloc (Nat.le_refl _) zT
    have h2 := blk_newO (w.alloc (tlL aT nT cT aH nH cH aL nL cL aG nG cG aN nN cN)) zT
    rw [World.size_alloc] at h2
    exact hide ((hb.block (w.heap.size + 1) (by simp)).trans h2)
  have O0 : Hid (W0.heap[w.heap.size + 2]? = some zT) := by
    rw [← hW0]
    have h2 := blk_newO ((w.alloc (tlL aT nT cT aH nH cH aL nL cL aG nG cG aN nN cN)).alloc zT) zT
    rw [World.size_alloc, World.size_alloc] at h2
    exact hide h2
  have C1 := hide (fun wx (hb : Below w.heap.size w wx) => toStringSS_any aT m.T nT cT wx hz.t (h1.t.below hb) hz.bt hz.bs)
  have C2 := hide (fun wx (hb : Below w.heap.size w wx) => toIntS_any aH m.hd nH cH wx hz.h (h1.h.below hb) hz.bh)
  have C3 := hide (fun wx (hb : Below w.heap.size w wx) => toNoteS_any aL m.ln nL cL wx hz.l (h1.l.below hb) hz.bl)
  have C4 := hide (fun wx (hb : Below w.heap.size w wx) => toToldS_any aG m.lg nG cG wx hz.g (h1.g.below hb) hz.bg)
  have C5 := hide (fun wx (hb : Below w.heap.size w wx) => toIntS_any aN m.nx nN cN wx hz.n (h1.n.below hb) hz.bn)
  have HW := hide hW0
  have HZZ := hide hz
  have HZ := hide hs0
  clear hW0 h1 hz hs0
  obtain ⟨k0, k1, k2, k3, k4⟩ := blk5 I0.out
  go_enter Try.func11, Try.ntmps11
  go_upto_region 2 with fail
  rw [HW.out]
  clear HW
  go_wp2_with fail
  refine (C1.out _ BX.out).mono ?_
  rintro e w1 ⟨rfl, ⟨⟨gg, ho1⟩, vs, hv1⟩, _, hb⟩
  have zb := hb.size
  have Bx := hide (BX.out.trans (hb.mono BX.out.size))
  have Ix := hide ((hb.block w.heap.size (Array.getElem?_eq_some_iff.1 I0.out).1).trans I0.out)
  have Rx := hide ((hb.block (w.heap.size + 1) (Array.getElem?_eq_some_iff.1 R0.out).1).trans R0.out)
  have Ox := hide ((hb.block (w.heap.size + 2) (Array.getElem?_eq_some_iff.1 O0.out).1).trans O0.out)
  have y0_ := hide ho1
  have x1 := hide hv1
  clear ho1 hv1
  clear hb k0 k1 k2 k3 k4
  obtain ⟨k0, k1, k2, k3, k4⟩ := blk5 Ix.out
  have u0 := Ox.out
  obtain ⟨y0, y1, y2, y3, y4⟩ := blk5 u0
  have yf : ∀ i, w1.frozen? ⟨w.heap.size + 2, i, none⟩ = false := fun i => frzO u0 i
  clear u0
  go_upto_region 3 with fail
  obtain ⟨W1, hW⟩ : ∃ x, (w1).setCell ⟨w.heap.size + 2, 0, none⟩ (.slice (some ⟨W0.heap.size, 0, none⟩) nT nT) = x := ⟨_, rfl⟩
  have BB1 : Hid (Below w.heap.size w W1) := by rw [← hW]; exact hide (Bx.out.setCell (p := ⟨w.heap.size + 2, 0, none⟩) (by show w.heap.size ≤ w.heap.size + 2; omega) _)
  have I1 : Hid (W1.heap[w.heap.size]? = some (tlL aT nT cT aH nH cH aL nL cL aG nG cG aN nN cN)) := by rw [← hW]; exact hide ((Below.heap_setCell _ _ _ _ (show w.heap.size ≠ w.heap.size + 2 by omega)).trans Ix.out)
  have R1 : Hid (W1.heap[w.heap.size + 1]? = some zT) := by rw [← hW]; exact hide ((Below.heap_setCell _ _ _ _ (show w.heap.size + 1 ≠ w.heap.size + 2 by omega)).trans Rx.out)
  have O1 : Hid (W1.heap[w.heap.size + 2]? = some (.cells #[.slice (some ⟨W0.heap.size, 0, none⟩) nT nT, .slice none 0 0, .slice none 0 0, .slice none 0 0, .slice none 0 0] 33 (0, 0))) := by rw [← hW]; exact hide ((heap_boxO Ox.out 0 (.slice (some ⟨W0.heap.size, 0, none⟩) nT nT)).trans rfl)
  have Zs1 : Hid (W0.heap.size ≤ W1.heap.size) := by rw [← hW]; exact hide (by simp; exact zb)
  have A0_1 : Hid (OwnSS W1 W0.heap.size m.T gg nT) := by rw [← hW]; exact hide (ownSS_setO y0_.out ⟨w.heap.size + 2, 0, none⟩ (.slice (some ⟨W0.heap.size, 0, none⟩) nT nT) (by show w.heap.size + 2 < _; have := HZ.out; omega))
  have A1_1 : Hid (W1.ownsRow W0.heap.size 58 1 (.slice (some ⟨W0.heap.size, 0, none⟩) nT nT) nT vs) := by rw [← hW]; exact hide (own_setO x1.out ⟨w.heap.size + 2, 0, none⟩ (.slice (some ⟨W0.heap.size, 0, none⟩) nT nT) (by show w.heap.size + 2 < _; have := HZ.out; omega))
  rw [hW]
  clear hW Bx Ix Rx Ox zb y0 y1 y2 y3 y4 yf y0_ x1 k0 k1 k2 k3 k4
  obtain ⟨k0, k1, k2, k3, k4⟩ := blk5 I1.out
  go_wp2_with fail
  refine (C2.out _ BB1.out).mono ?_
  rintro e w2 ⟨rfl, hv2, hb⟩
  have zb := hb.size
  have Bx := hide (BB1.out.trans (hb.mono BB1.out.size))
  have Ix := hide ((hb.block w.heap.size (Array.getElem?_eq_some_iff.1 I1.out).1).trans I1.out)
  have Rx := hide ((hb.block (w.heap.size + 1) (Array.getElem?_eq_some_iff.1 R1.out).1).trans R1.out)
  have Ox := hide ((hb.block (w.heap.size + 2) (Array.getElem?_eq_some_iff.1 O1.out).1).trans O1.out)
  have y0_ := hide (A0_1.out.below hb)
  have x1 := hide (own_belO A1_1.out hb)
  have x2 := hide hv2
  clear hv2
  clear hb k0 k1 k2 k3 k4
  obtain ⟨k0, k1, k2, k3, k4⟩ := blk5 Ix.out
  have u0 := Ox.out
  obtain ⟨y0, y1, y2, y3, y4⟩ := blk5 u0
  have yf : ∀ i, w2.frozen? ⟨w.heap.size + 2, i, none⟩ = false := fun i => frzO u0 i
  clear u0
  go_upto_region 4 with fail
  obtain ⟨W2, hW⟩ : ∃ x, (w2).setCell ⟨w.heap.size + 2, 1, none⟩ (.slice (some ⟨W1.heap.size, 0, none⟩) nH nH) = x := ⟨_, rfl⟩
  have BB2 : Hid (Below w.heap.size w W2) := by rw [← hW]; exact hide (Bx.out.setCell (p := ⟨w.heap.size + 2, 1, none⟩) (by show w.heap.size ≤ w.heap.size + 2; omega) _)
  have I2 : Hid (W2.heap[w.heap.size]? = some (tlL aT nT cT aH nH cH aL nL cL aG nG cG aN nN cN)) := by rw [← hW]; exact hide ((Below.heap_setCell _ _ _ _ (show w.heap.size ≠ w.heap.size + 2 by omega)).trans Ix.out)
  have R2 : Hid (W2.heap[w.heap.size + 1]? = some zT) := by rw [← hW]; exact hide ((Below.heap_setCell _ _ _ _ (show w.heap.size + 1 ≠ w.heap.size + 2 by omega)).trans Rx.out)
  have O2 : Hid (W2.heap[w.heap.size + 2]? = some (.cells #[.slice (some ⟨W0.heap.size, 0, none⟩) nT nT, .slice (some ⟨W1.heap.size, 0, none⟩) nH nH, .slice none 0 0, .slice none 0 0, .slice none 0 0] 33 (0, 0))) := by rw [← hW]; exact hide ((heap_boxO Ox.out 1 (.slice (some ⟨W1.heap.size, 0, none⟩) nH nH)).trans rfl)
  have Zs2 : Hid (W1.heap.size ≤ W2.heap.size) := by rw [← hW]; exact hide (by simp; exact zb)
  have A0_2 : Hid (OwnSS W2 W0.heap.size m.T gg nT) := by rw [← hW]; exact hide (ownSS_setO y0_.out ⟨w.heap.size + 2, 1, none⟩ (.slice (some ⟨W1.heap.size, 0, none⟩) nH nH) (by show w.heap.size + 2 < _; have := HZ.out; have := Zs1.out; omega))
  have A1_2 : Hid (W2.ownsRow W0.heap.size 58 1 (.slice (some ⟨W0.heap.size, 0, none⟩) nT nT) nT vs) := by rw [← hW]; exact hide (own_setO x1.out ⟨w.heap.size + 2, 1, none⟩ (.slice (some ⟨W1.heap.size, 0, none⟩) nH nH) (by show w.heap.size + 2 < _; have := HZ.out; have := Zs1.out; omega))
  have A2_2 : Hid (W2.ownsRow W1.heap.size 3 1 (.slice (some ⟨W1.heap.size, 0, none⟩) nH nH) nH (m.hd.map (Value.int .i64))) := by rw [← hW]; exact hide (own_setO x2.out ⟨w.heap.size + 2, 1, none⟩ (.slice (some ⟨W1.heap.size, 0, none⟩) nH nH) (by show w.heap.size + 2 < _; have := HZ.out; have := Zs1.out; omega))
  have HLT : Hid (W1.heap.size < W2.heap.size) := hide (A2_2.out.lt W1.heap.size rfl).2
  rw [hW]
  clear hW Bx Ix Rx Ox zb y0 y1 y2 y3 y4 yf y0_ x1 x2 k0 k1 k2 k3 k4
  obtain ⟨k0, k1, k2, k3, k4⟩ := blk5 I2.out
  go_wp2_with fail
  refine (C3.out _ BB2.out).mono ?_
  rintro e w3 ⟨rfl, hv3, hb⟩
  have zb := hb.size
  have Bx := hide (BB2.out.trans (hb.mono BB2.out.size))
  have Ix := hide ((hb.block w.heap.size (Array.getElem?_eq_some_iff.1 I2.out).1).trans I2.out)
  have Rx := hide ((hb.block (w.heap.size + 1) (Array.getElem?_eq_some_iff.1 R2.out).1).trans R2.out)
  have Ox := hide ((hb.block (w.heap.size + 2) (Array.getElem?_eq_some_iff.1 O2.out).1).trans O2.out)
  have y0_ := hide (A0_2.out.below hb)
  have x1 := hide (own_belO A1_2.out hb)
  have x2 := hide (own_belO A2_2.out hb)
  have x3 := hide hv3
  clear hv3
  clear hb k0 k1 k2 k3 k4
  obtain ⟨k0, k1, k2, k3, k4⟩ := blk5 Ix.out
  have u0 := Ox.out
  obtain ⟨y0, y1, y2, y3, y4⟩ := blk5 u0
  have yf : ∀ i, w3.frozen? ⟨w.heap.size + 2, i, none⟩ = false := fun i => frzO u0 i
  clear u0
  go_upto_region 5 with fail
  obtain ⟨W3, hW⟩ : ∃ x, (w3).setCell ⟨w.heap.size + 2, 2, none⟩ (.slice (some ⟨W2.heap.size, 0, none⟩) nL nL) = x := ⟨_, rfl⟩
  have BB3 : Hid (Below w.heap.size w W3) := by rw [← hW]; exact hide (Bx.out.setCell (p := ⟨w.heap.size + 2, 2, none⟩) (by show w.heap.size ≤ w.heap.size + 2; omega) _)
  have I3 : Hid (W3.heap[w.heap.size]? = some (tlL aT nT cT aH nH cH aL nL cL aG nG cG aN nN cN)) := by rw [← hW]; exact hide ((Below.heap_setCell _ _ _ _ (show w.heap.size ≠ w.heap.size + 2 by omega)).trans Ix.out)
  have R3 : Hid (W3.heap[w.heap.size + 1]? = some zT) := by rw [← hW]; exact hide ((Below.heap_setCell _ _ _ _ (show w.heap.size + 1 ≠ w.heap.size + 2 by omega)).trans Rx.out)
  have O3 : Hid (W3.heap[w.heap.size + 2]? = some (.cells #[.slice (some ⟨W0.heap.size, 0, none⟩) nT nT, .slice (some ⟨W1.heap.size, 0, none⟩) nH nH, .slice (some ⟨W2.heap.size, 0, none⟩) nL nL, .slice none 0 0, .slice none 0 0] 33 (0, 0))) := by rw [← hW]; exact hide ((heap_boxO Ox.out 2 (.slice (some ⟨W2.heap.size, 0, none⟩) nL nL)).trans rfl)
  have Zs3 : Hid (W2.heap.size ≤ W3.heap.size) := by rw [← hW]; exact hide (by simp; exact zb)
  have A0_3 : Hid (OwnSS W3 W0.heap.size m.T gg nT) := by rw [← hW]; exact hide (ownSS_setO y0_.out ⟨w.heap.size + 2, 2, none⟩ (.slice (some ⟨W2.heap.size, 0, none⟩) nL nL) (by show w.heap.size + 2 < _; have := HZ.out; have := Zs1.out; have := Zs2.out; omega))
  have A1_3 : Hid (W3.ownsRow W0.heap.size 58 1 (.slice (some ⟨W0.heap.size, 0, none⟩) nT nT) nT vs) := by rw [← hW]; exact hide (own_setO x1.out ⟨w.heap.size + 2, 2, none⟩ (.slice (some ⟨W2.heap.size, 0, none⟩) nL nL) (by show w.heap.size + 2 < _; have := HZ.out; have := Zs1.out; have := Zs2.out; omega))
  have A2_3 : Hid (W3.ownsRow W1.heap.size 3 1 (.slice (some ⟨W1.heap.size, 0, none⟩) nH nH) nH (m.hd.map (Value.int .i64))) := by rw [← hW]; exact hide (own_setO x2.out ⟨w.heap.size + 2, 2, none⟩ (.slice (some ⟨W2.heap.size, 0, none⟩) nL nL) (by show w.heap.size + 2 < _; have := HZ.out; have := Zs1.out; have := Zs2.out; omega))
  have A3_3 : Hid (W3.ownsRow W2.heap.size 77 4 (.slice (some ⟨W2.heap.size, 0, none⟩) nL nL) nL (flat4 m.ln)) := by rw [← hW]; exact hide (own_setO x3.out ⟨w.heap.size + 2, 2, none⟩ (.slice (some ⟨W2.heap.size, 0, none⟩) nL nL) (by show w.heap.size + 2 < _; have := HZ.out; have := Zs1.out; have := Zs2.out; omega))
  rw [hW]
  clear hW Bx Ix Rx Ox zb y0 y1 y2 y3 y4 yf y0_ x1 x2 x3 k0 k1 k2 k3 k4
  obtain ⟨k0, k1, k2, k3, k4⟩ := blk5 I3.out
  go_wp2_with fail
  refine (C4.out _ BB3.out).mono ?_
  rintro e w4 ⟨rfl, hv4, hb⟩
  have zb := hb.size
  have Bx := hide (BB3.out.trans (hb.mono BB3.out.size))
  have Ix := hide ((hb.block w.heap.size (Array.getElem?_eq_some_iff.1 I3.out).1).trans I3.out)
  have Rx := hide ((hb.block (w.heap.size + 1) (Array.getElem?_eq_some_iff.1 R3.out).1).trans R3.out)
  have Ox := hide ((hb.block (w.heap.size + 2) (Array.getElem?_eq_some_iff.1 O3.out).1).trans O3.out)
  have y0_ := hide (A0_3.out.below hb)
  have x1 := hide (own_belO A1_3.out hb)
  have x2 := hide (own_belO A2_3.out hb)
  have x3 := hide (own_belO A3_3.out hb)
  have x4 := hide hv4
  clear hv4
  clear hb k0 k1 k2 k3 k4
  obtain ⟨k0, k1, k2, k3, k4⟩ := blk5 Ix.out
  have u0 := Ox.out
  obtain ⟨y0, y1, y2, y3, y4⟩ := blk5 u0
  have yf : ∀ i, w4.frozen? ⟨w.heap.size + 2, i, none⟩ = false := fun i => frzO u0 i
  clear u0
  go_upto_region 6 with fail
  obtain ⟨W4, hW⟩ : ∃ x, (w4).setCell ⟨w.heap.size + 2, 3, none⟩ (.slice (some ⟨W3.heap.size, 0, none⟩) nG nG) = x := ⟨_, rfl⟩
  have BB4 : Hid (Below w.heap.size w W4) := by rw [← hW]; exact hide (Bx.out.setCell (p := ⟨w.heap.size + 2, 3, none⟩) (by show w.heap.size ≤ w.heap.size + 2; omega) _)
  have I4 : Hid (W4.heap[w.heap.size]? = some (tlL aT nT cT aH nH cH aL nL cL aG nG cG aN nN cN)) := by rw [← hW]; exact hide ((Below.heap_setCell _ _ _ _ (show w.heap.size ≠ w.heap.size + 2 by omega)).trans Ix.out)
  have R4 : Hid (W4.heap[w.heap.size + 1]? = some zT) := by rw [← hW]; exact hide ((Below.heap_setCell _ _ _ _ (show w.heap.size + 1 ≠ w.heap.size + 2 by omega)).trans Rx.out)
  have O4 : Hid (W4.heap[w.heap.size + 2]? = some (.cells #[.slice (some ⟨W0.heap.size, 0, none⟩) nT nT, .slice (some ⟨W1.heap.size, 0, none⟩) nH nH, .slice (some ⟨W2.heap.size, 0, none⟩) nL nL, .slice (some ⟨W3.heap.size, 0, none⟩) nG nG, .slice none 0 0] 33 (0, 0))) := by rw [← hW]; exact hide ((heap_boxO Ox.out 3 (.slice (some ⟨W3.heap.size, 0, none⟩) nG nG)).trans rfl)
  have Zs4 : Hid (W3.heap.size ≤ W4.heap.size) := by rw [← hW]; exact hide (by simp; exact zb)
  have A0_4 : Hid (OwnSS W4 W0.heap.size m.T gg nT) := by rw [← hW]; exact hide (ownSS_setO y0_.out ⟨w.heap.size + 2, 3, none⟩ (.slice (some ⟨W3.heap.size, 0, none⟩) nG nG) (by show w.heap.size + 2 < _; have := HZ.out; have := Zs1.out; have := Zs2.out; have := Zs3.out; omega))
  have A1_4 : Hid (W4.ownsRow W0.heap.size 58 1 (.slice (some ⟨W0.heap.size, 0, none⟩) nT nT) nT vs) := by rw [← hW]; exact hide (own_setO x1.out ⟨w.heap.size + 2, 3, none⟩ (.slice (some ⟨W3.heap.size, 0, none⟩) nG nG) (by show w.heap.size + 2 < _; have := HZ.out; have := Zs1.out; have := Zs2.out; have := Zs3.out; omega))
  have A2_4 : Hid (W4.ownsRow W1.heap.size 3 1 (.slice (some ⟨W1.heap.size, 0, none⟩) nH nH) nH (m.hd.map (Value.int .i64))) := by rw [← hW]; exact hide (own_setO x2.out ⟨w.heap.size + 2, 3, none⟩ (.slice (some ⟨W3.heap.size, 0, none⟩) nG nG) (by show w.heap.size + 2 < _; have := HZ.out; have := Zs1.out; have := Zs2.out; have := Zs3.out; omega))
  have A3_4 : Hid (W4.ownsRow W2.heap.size 77 4 (.slice (some ⟨W2.heap.size, 0, none⟩) nL nL) nL (flat4 m.ln)) := by rw [← hW]; exact hide (own_setO x3.out ⟨w.heap.size + 2, 3, none⟩ (.slice (some ⟨W3.heap.size, 0, none⟩) nG nG) (by show w.heap.size + 2 < _; have := HZ.out; have := Zs1.out; have := Zs2.out; have := Zs3.out; omega))
  have A4_4 : Hid (W4.ownsRow W3.heap.size 75 3 (.slice (some ⟨W3.heap.size, 0, none⟩) nG nG) nG (flat3 m.lg)) := by rw [← hW]; exact hide (own_setO x4.out ⟨w.heap.size + 2, 3, none⟩ (.slice (some ⟨W3.heap.size, 0, none⟩) nG nG) (by show w.heap.size + 2 < _; have := HZ.out; have := Zs1.out; have := Zs2.out; have := Zs3.out; omega))
  rw [hW]
  clear hW Bx Ix Rx Ox zb y0 y1 y2 y3 y4 yf y0_ x1 x2 x3 x4 k0 k1 k2 k3 k4
  obtain ⟨k0, k1, k2, k3, k4⟩ := blk5 I4.out
  go_wp2_with fail
  refine (C5.out _ BB4.out).mono ?_
  rintro e w5 ⟨rfl, hv5, hb⟩
  have zb := hb.size
  have Bx := hide (BB4.out.trans (hb.mono BB4.out.size))
  have Ix := hide ((hb.block w.heap.size (Array.getElem?_eq_some_iff.1 I4.out).1).trans I4.out)
  have Rx := hide ((hb.block (w.heap.size + 1) (Array.getElem?_eq_some_iff.1 R4.out).1).trans R4.out)
  have Ox := hide ((hb.block (w.heap.size + 2) (Array.getElem?_eq_some_iff.1 O4.out).1).trans O4.out)
  have y0_ := hide (A0_4.out.below hb)
  have x1 := hide (own_belO A1_4.out hb)
  have x2 := hide (own_belO A2_4.out hb)
  have x3 := hide (own_belO A3_4.out hb)
  have x4 := hide (own_belO A4_4.out hb)
  have x5 := hide hv5
  clear hv5
  clear hb k0 k1 k2 k3 k4
  obtain ⟨k0, k1, k2, k3, k4⟩ := blk5 Ix.out
  have u0 := Ox.out
  obtain ⟨y0, y1, y2, y3, y4⟩ := blk5 u0
  have yf : ∀ i, w5.frozen? ⟨w.heap.size + 2, i, none⟩ = false := fun i => frzO u0 i
  clear u0
  go_upto_region 7 with fail
  obtain ⟨W5, hW⟩ : ∃ x, (w5).setCell ⟨w.heap.size + 2, 4, none⟩ (.slice (some ⟨W4.heap.size, 0, none⟩) nN nN) = x := ⟨_, rfl⟩
  have BB5 : Hid (Below w.heap.size w W5) := by rw [← hW]; exact hide (Bx.out.setCell (p := ⟨w.heap.size + 2, 4, none⟩) (by show w.heap.size ≤ w.heap.size + 2; omega) _)
  have I5 : Hid (W5.heap[w.heap.size]? = some (tlL aT nT cT aH nH cH aL nL cL aG nG cG aN nN cN)) := by rw [← hW]; exact hide ((Below.heap_setCell _ _ _ _ (show w.heap.size ≠ w.heap.size + 2 by omega)).trans Ix.out)
  have R5 : Hid (W5.heap[w.heap.size + 1]? = some zT) := by rw [← hW]; exact hide ((Below.heap_setCell _ _ _ _ (show w.heap.size + 1 ≠ w.heap.size + 2 by omega)).trans Rx.out)
  have O5 : Hid (W5.heap[w.heap.size + 2]? = some (.cells #[.slice (some ⟨W0.heap.size, 0, none⟩) nT nT, .slice (some ⟨W1.heap.size, 0, none⟩) nH nH, .slice (some ⟨W2.heap.size, 0, none⟩) nL nL, .slice (some ⟨W3.heap.size, 0, none⟩) nG nG, .slice (some ⟨W4.heap.size, 0, none⟩) nN nN] 33 (0, 0))) := by rw [← hW]; exact hide ((heap_boxO Ox.out 4 (.slice (some ⟨W4.heap.size, 0, none⟩) nN nN)).trans rfl)
  have Zs5 : Hid (W4.heap.size ≤ W5.heap.size) := by rw [← hW]; exact hide (by simp; exact zb)
  have A0_5 : Hid (OwnSS W5 W0.heap.size m.T gg nT) := by rw [← hW]; exact hide (ownSS_setO y0_.out ⟨w.heap.size + 2, 4, none⟩ (.slice (some ⟨W4.heap.size, 0, none⟩) nN nN) (by show w.heap.size + 2 < _; have := HZ.out; have := Zs1.out; have := Zs2.out; have := Zs3.out; have := Zs4.out; omega))
  have A1_5 : Hid (W5.ownsRow W0.heap.size 58 1 (.slice (some ⟨W0.heap.size, 0, none⟩) nT nT) nT vs) := by rw [← hW]; exact hide (own_setO x1.out ⟨w.heap.size + 2, 4, none⟩ (.slice (some ⟨W4.heap.size, 0, none⟩) nN nN) (by show w.heap.size + 2 < _; have := HZ.out; have := Zs1.out; have := Zs2.out; have := Zs3.out; have := Zs4.out; omega))
  have A2_5 : Hid (W5.ownsRow W1.heap.size 3 1 (.slice (some ⟨W1.heap.size, 0, none⟩) nH nH) nH (m.hd.map (Value.int .i64))) := by rw [← hW]; exact hide (own_setO x2.out ⟨w.heap.size + 2, 4, none⟩ (.slice (some ⟨W4.heap.size, 0, none⟩) nN nN) (by show w.heap.size + 2 < _; have := HZ.out; have := Zs1.out; have := Zs2.out; have := Zs3.out; have := Zs4.out; omega))
  have A3_5 : Hid (W5.ownsRow W2.heap.size 77 4 (.slice (some ⟨W2.heap.size, 0, none⟩) nL nL) nL (flat4 m.ln)) := by rw [← hW]; exact hide (own_setO x3.out ⟨w.heap.size + 2, 4, none⟩ (.slice (some ⟨W4.heap.size, 0, none⟩) nN nN) (by show w.heap.size + 2 < _; have := HZ.out; have := Zs1.out; have := Zs2.out; have := Zs3.out; have := Zs4.out; omega))
  have A4_5 : Hid (W5.ownsRow W3.heap.size 75 3 (.slice (some ⟨W3.heap.size, 0, none⟩) nG nG) nG (flat3 m.lg)) := by rw [← hW]; exact hide (own_setO x4.out ⟨w.heap.size + 2, 4, none⟩ (.slice (some ⟨W4.heap.size, 0, none⟩) nN nN) (by show w.heap.size + 2 < _; have := HZ.out; have := Zs1.out; have := Zs2.out; have := Zs3.out; have := Zs4.out; omega))
  have A5_5 : Hid (W5.ownsRow W4.heap.size 3 1 (.slice (some ⟨W4.heap.size, 0, none⟩) nN nN) nN (m.nx.map (Value.int .i64))) := by rw [← hW]; exact hide (own_setO x5.out ⟨w.heap.size + 2, 4, none⟩ (.slice (some ⟨W4.heap.size, 0, none⟩) nN nN) (by show w.heap.size + 2 < _; have := HZ.out; have := Zs1.out; have := Zs2.out; have := Zs3.out; have := Zs4.out; omega))
  rw [hW]
  clear hW Bx Ix Rx Ox zb y0 y1 y2 y3 y4 yf y0_ x1 x2 x3 x4 x5 k0 k1 k2 k3 k4
  obtain ⟨k0, k1, k2, k3, k4⟩ := blk5 I5.out
  obtain ⟨y0, y1, y2, y3, y4⟩ := blk5 O5.out
  have r0 := R5.out
  obtain ⟨z0, z1, z2, z3, z4⟩ := blk5 r0
  have zf : ∀ i, W5.frozen? ⟨w.heap.size + 1, i, none⟩ = false := fun i => frzO r0 i
  clear r0
  go_wp2
  refine bodyPost_ret (v := tlV (some ⟨W0.heap.size, 0, none⟩) nT nT (some ⟨W1.heap.size, 0, none⟩) nH nH (some ⟨W2.heap.size, 0, none⟩) nL nL (some ⟨W3.heap.size, 0, none⟩) nG nG (some ⟨W4.heap.size, 0, none⟩) nN nN) ?_ rfl ?_
  · simp [results, Try.f11, go_sem, z0, z1, z2, z3, z4]
  · have q0 := HZ.out
    have q1 := Zs1.out
    have q2 := Zs2.out
    have q3 := Zs3.out
    have q4 := Zs4.out
    have q5 := Zs5.out
    have hT := five_tw (w := w) (z := w.heap.size + 1) (N := w.heap.size) (by omega) HZZ.out A0_5.out A1_5.out A2_5.out A3_5.out A4_5.out A5_5.out (by omega) (by omega) (by omega) (by omega) (by omega) (by have := HLT.out; omega)
    exact ⟨vs, _, _, _, _, _, rfl, hT _ _ _ _ _, five_bel BB5.out (by omega) _ _ _ _ _⟩
end Go.Proofs.Ythmekhhfihjclag.L10
