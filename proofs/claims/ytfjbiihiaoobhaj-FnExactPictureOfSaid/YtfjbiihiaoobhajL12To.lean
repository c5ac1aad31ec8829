/-
  Contract of the laws' own helper toBank: a copy in memory of its own.
-/
import Derived.Test.YtfjbiihiaoobhajL12Mem
import Derived.Test.YtfjbiihiaoobhajSITo
import Derived.Test.YtfjbiihiaoobhajSBTo
import Derived.Test.YtfjbiihiaoobhajL1Lists
import Derived.Deep.DeepCutAuto
namespace Go.Proofs.Ytfjbiihiaoobhaj.L12
open Go.RowKit L1 L9 Own Sli
set_option linter.unusedVariables false

abbrev five (w : World) (z : Nat) (v0 v1 v2 v3 v4 : Value) : World := ((((w.setCell ⟨z, 0, none⟩ v0).setCell ⟨z, 1, none⟩ v1).setCell ⟨z, 2, none⟩ v2).setCell ⟨z, 3, none⟩ v3).setCell ⟨z, 4, none⟩ v4
theorem five_bel {N : Nat} {w w' : World} {z : Nat} (h : Below N w w') (hz : N ≤ z) (v0 v1 v2 v3 v4 : Value) : Below N w (five w' z v0 v1 v2 v3 v4) :=
  ((((h.setCell (p := ⟨z, 0, none⟩) hz _).setCell (p := ⟨z, 1, none⟩) hz _).setCell (p := ⟨z, 2, none⟩) hz _).setCell (p := ⟨z, 3, none⟩) hz _).setCell (p := ⟨z, 4, none⟩) hz _
theorem five_blk {w : World} {z q : Nat} (v0 v1 v2 v3 v4 : Value) (h : q ≠ z) : (five w z v0 v1 v2 v3 v4).heap[q]? = w.heap[q]? := by
  unfold five
  rw [Below.heap_setCell _ _ _ _ h, Below.heap_setCell _ _ _ _ h, Below.heap_setCell _ _ _ _ h, Below.heap_setCell _ _ _ _ h, Below.heap_setCell _ _ _ _ h]
theorem five_size (w : World) (z : Nat) (v0 v1 v2 v3 v4 : Value) : (five w z v0 v1 v2 v3 v4).heap.size = w.heap.size := by unfold five; simp
theorem ownSI_setO {w : World} {B : Nat} {ls : List (List Int)} {g : Nat → Nat} {m : Nat} (h : OwnSI w B ls g m) (p : Addr) (u : Value) (hp : p.block < B) : OwnSI (w.setCell p u) B ls g m :=
  ⟨fun i hi => by rw [World.cell?_setCell_other _ _ _ _ (fun e => by have e' := congrArg Addr.block e; simp at e'; omega)]; exact h.cell i hi, fun i hi => own_setO (h.own i hi) p u (by omega), h.rise, fun i hi => by simp; exact h.lt i hi⟩
theorem ownSB_setO {w : World} {B : Nat} {ls : List (List Bool)} {g : Nat → Nat} {m : Nat} (h : OwnSB w B ls g m) (p : Addr) (u : Value) (hp : p.block < B) : OwnSB (w.setCell p u) B ls g m :=
  ⟨fun i hi => by rw [World.cell?_setCell_other _ _ _ _ (fun e => by have e' := congrArg Addr.block e; simp at e'; omega)]; exact h.cell i hi, fun i hi => own_setO (h.own i hi) p u (by omega), h.rise, fun i hi => by simp; exact h.lt i hi⟩
theorem ownSI_val {w : World} {B n : Nat} {ls : List (List Int)} {g : Nat → Nat} {vs : List Value} (h0 : OwnSI w B ls g n) (h1 : w.ownsRow B 22 1 (.slice (some ⟨B, 0, none⟩) n n) n vs) (hn : ls.length = n) (i : Nat) : (i < n ∧ vs.getD i nilV = .slice (some ⟨g i, 0, none⟩) (ls.getD i []).length (ls.getD i []).length ∧ w.ownsRow (B + 1) 3 1 (vs.getD i nilV) (ls.getD i []).length ((ls.getD i []).map (Value.int .i64))) ∨ (n ≤ i ∧ vs.getD i nilV = nilV ∧ ls.getD i [] = []) := by
  have hl := h1.1
  by_cases hi : i < n
  · have hu : vs[i]? = some (vs.getD i nilV) := by simp [List.getD, List.getElem?_eq_getElem (show i < vs.length by omega)]
    have hc := h0.cell i hi
    rw [own_cellB h1 i _ hu] at hc
    have e := Option.some.inj hc
    exact .inl ⟨hi, e, by rw [e]; exact h0.own i hi⟩
  · exact .inr ⟨by omega, by simp [List.getD, List.getElem?_eq_none (show vs.length ≤ i by omega)], by simp [List.getD, List.getElem?_eq_none (show ls.length ≤ i by omega)]⟩
theorem ownSB_val {w : World} {B n : Nat} {ls : List (List Bool)} {g : Nat → Nat} {vs : List Value} (h0 : OwnSB w B ls g n) (h1 : w.ownsRow B 52 1 (.slice (some ⟨B, 0, none⟩) n n) n vs) (hn : ls.length = n) (i : Nat) : (i < n ∧ vs.getD i nilV = .slice (some ⟨g i, 0, none⟩) (ls.getD i []).length (ls.getD i []).length ∧ w.ownsRow (B + 1) 4 1 (vs.getD i nilV) (ls.getD i []).length ((ls.getD i []).map Value.bool)) ∨ (n ≤ i ∧ vs.getD i nilV = nilV ∧ ls.getD i [] = []) := by
  have hl := h1.1
  by_cases hi : i < n
  · have hu : vs[i]? = some (vs.getD i nilV) := by simp [List.getD, List.getElem?_eq_getElem (show i < vs.length by omega)]
    have hc := h0.cell i hi
    rw [own_cellB h1 i _ hu] at hc
    have e := Option.some.inj hc
    exact .inl ⟨hi, e, by rw [e]; exact h0.own i hi⟩
  · exact .inr ⟨by omega, by simp [List.getD, List.getElem?_eq_none (show vs.length ≤ i by omega)], by simp [List.getD, List.getElem?_eq_none (show ls.length ≤ i by omega)]⟩
/-- The copies of the five fields are a bank of its own. -/
theorem five_bw {W5 : World} {z N : Nat} {b0 b1 b2 b3 b4 : Nat} {m : Bk} {nC nW nK nH nF : Nat} {gW gH gF : Nat → Nat} {vsW vsH vsF : List Value} (hNz : N ≤ z) (hz : BkZ m nC nW nK nH nF)
    (h0 : W5.ownsRow b0 3 1 (.slice (some ⟨b0, 0, none⟩) nC nC) nC (m.c.map (Value.int .i64))) (y1 : OwnSI W5 b1 m.W gW nW) (h1 : W5.ownsRow b1 22 1 (.slice (some ⟨b1, 0, none⟩) nW nW) nW vsW) (h2 : W5.ownsRow b2 3 1 (.slice (some ⟨b2, 0, none⟩) nK nK) nK (m.k.map (Value.int .i64)))
    (y3 : OwnSB W5 b3 m.H gH nH) (h3 : W5.ownsRow b3 52 1 (.slice (some ⟨b3, 0, none⟩) nH nH) nH vsH) (y4 : OwnSI W5 b4 m.F gF nF) (h4 : W5.ownsRow b4 22 1 (.slice (some ⟨b4, 0, none⟩) nF nF) nF vsF)
    (hb0 : z < b0) (hb1 : b0 < b1) (hb2 : b1 < b2) (hb3 : b2 < b3) (hb4 : b3 < b4) (hl1 : ∀ i, i < nW → gW i < b2) (v0 v1 v2 v3 v4 : Value) :
    BW (five W5 z v0 v1 v2 v3 v4) (fun q => N ≤ q ∧ q < (five W5 z v0 v1 v2 v3 v4).heap.size) ⟨.slice (some ⟨b0, 0, none⟩) nC nC, .slice (some ⟨b1, 0, none⟩) nW nW, .slice (some ⟨b2, 0, none⟩) nK nK, .slice (some ⟨b3, 0, none⟩) nH nH, .slice (some ⟨b4, 0, none⟩) nF nF, vsW, vsF, vsH⟩ m := by
  have hl : ∀ {base c n : Nat} {t : TypeId} {v : Value} {xs : List Value}, W5.ownsRow base t c v n xs → z < base → (five W5 z v0 v1 v2 v3 v4).ownsRow 0 t c v n xs := fun ho hb => own_zero (own_at ho fun q hq => five_blk _ _ _ _ _ (fun e => by have := own_ge ho q hq; omega))
  have ins : ∀ {base c n : Nat} {t : TypeId} {v : Value} {xs : List Value}, W5.ownsRow base t c v n xs → z < base → InS (fun q => N ≤ q ∧ q < (five W5 z v0 v1 v2 v3 v4).heap.size) v := fun ho hb q hq => ⟨by have := own_ge ho q hq; omega, by rw [five_size]; exact own_ltO ho q hq⟩
  have insN : InS (fun q => N ≤ q ∧ q < (five W5 z v0 v1 v2 v3 v4).heap.size) nilV := fun q hq => by cases hq
  have vW := ownSI_val y1 h1 hz.W
  have vH := ownSB_val y3 h3 hz.H
  have vF := ownSI_val y4 h4 hz.F
  refine ⟨fun t => ?_, ?_, by rw [hz.W]; exact hl h1 (by omega), by rw [hz.F]; exact hl h4 (by omega), fun q e e2 => ?_, by rw [hz.H]; exact hl h3 (by omega), fun i => ?_, fun i j q hij e e2 => ?_, fun t => ?_, ins h1 (by omega), ins h4 (by omega), ins h3 (by omega), fun i => ?_⟩
  · cases t with
    | c => show World.ownsRow _ 0 _ 1 _ m.c.length _; rw [hz.c]; exact hl h0 hb0
    | k => show World.ownsRow _ 0 _ 1 _ m.k.length _; rw [hz.k]; exact hl h2 (by omega)
    | w i =>
      show World.ownsRow _ 0 _ 1 (vsW.getD i nilV) (m.W.getD i []).length ((m.W.getD i []).map _)
      rcases vW i with ⟨_, _, ho⟩ | ⟨_, e1, e2⟩
      · exact hl ho (by omega)
      · rw [e1, e2]; exact World.ownsRow_nil _ _ _ _
    | f i =>
      show World.ownsRow _ 0 _ 1 (vsF.getD i nilV) (m.F.getD i []).length ((m.F.getD i []).map _)
      rcases vF i with ⟨_, _, ho⟩ | ⟨_, e1, e2⟩
      · exact hl ho (by omega)
      · rw [e1, e2]; exact World.ownsRow_nil _ _ _ _
  · have bw : ∀ i q, (vsW.getD i nilV).ownBlock = some q → i < nW ∧ gW i = q ∧ b1 < q ∧ q < b2 := fun i q e => by
      rcases vW i with ⟨hi, e1, ho⟩ | ⟨_, e1, _⟩
      · have h5 := own_ge ho q e
        rw [e1] at e
        have e3 : gW i = q := Option.some.inj e
        have := hl1 i hi
        exact ⟨hi, e3, by omega, by omega⟩
      · rw [e1] at e; cases e
    have bf : ∀ i q, (vsF.getD i nilV).ownBlock = some q → i < nF ∧ gF i = q ∧ b4 < q := fun i q e => by
      rcases vF i with ⟨hi, e1, ho⟩ | ⟨_, e1, _⟩
      · have h5 := own_ge ho q e
        rw [e1] at e
        exact ⟨hi, Option.some.inj e, by omega⟩
      · rw [e1] at e; cases e
    intro s t q hst e e2
    cases s with
    | c =>
      have q1 : b0 = q := Option.some.inj e
      cases t with
      | c => exact hst rfl
      | k => have q2 : b2 = q := Option.some.inj e2; omega
      | w j => have := bw j q e2; omega
      | f j => have := bf j q e2; omega
    | k =>
      have q1 : b2 = q := Option.some.inj e
      cases t with
      | c => have q2 : b0 = q := Option.some.inj e2; omega
      | k => exact hst rfl
      | w j => have := bw j q e2; omega
      | f j => have := bf j q e2; omega
    | w i =>
      obtain ⟨p1, p2, p3, p4⟩ := bw i q e
      cases t with
      | c => have q2 : b0 = q := Option.some.inj e2; omega
      | k => have q2 : b2 = q := Option.some.inj e2; omega
      | w j =>
        obtain ⟨r1, r2, _, _⟩ := bw j q e2
        have hij : i ≠ j := fun h => hst (by rw [h])
        rcases Nat.lt_or_gt_of_ne hij with h | h
        · have := y1.rise i j h r1; omega
        · have := y1.rise j i h p1; omega
      | f j => have := bf j q e2; omega
    | f i =>
      obtain ⟨p1, p2, p3⟩ := bf i q e
      cases t with
      | c => have q2 : b0 = q := Option.some.inj e2; omega
      | k => have q2 : b2 = q := Option.some.inj e2; omega
      | w j => have := bw j q e2; omega
      | f j =>
        obtain ⟨r1, r2, _⟩ := bf j q e2
        have hij : i ≠ j := fun h => hst (by rw [h])
        rcases Nat.lt_or_gt_of_ne hij with h | h
        · have := y4.rise i j h r1; omega
        · have := y4.rise j i h p1; omega
  · have q1 : b1 = q := Option.some.inj e
    have q2 : b4 = q := Option.some.inj e2
    omega
  · rcases vH i with ⟨_, _, ho⟩ | ⟨_, e1, e2⟩
    · exact hl ho (by omega)
    · show World.ownsRow _ 0 _ 1 (vsH.getD i nilV) (m.H.getD i []).length ((m.H.getD i []).map _)
      rw [e1, e2]; exact World.ownsRow_nil _ _ _ _
  · rcases vH i with ⟨hi, e1, _⟩ | ⟨_, e1, _⟩
    · rcases vH j with ⟨hj, e3, _⟩ | ⟨_, e3, _⟩
      · have e' : (vsH.getD i nilV).ownBlock = some q := e
        have e2' : (vsH.getD j nilV).ownBlock = some q := e2
        rw [e1] at e'
        rw [e3] at e2'
        have q1 : gH i = q := Option.some.inj e'
        have q2 : gH j = q := Option.some.inj e2'
        rcases Nat.lt_or_gt_of_ne hij with h | h
        · have := y3.rise i j h hj; omega
        · have := y3.rise j i h hi; omega
      · have e2' : (vsH.getD j nilV).ownBlock = some q := e2
        rw [e3] at e2'; cases e2'
    · have e' : (vsH.getD i nilV).ownBlock = some q := e
      rw [e1] at e'; cases e'
  · cases t with
    | c => exact ins h0 hb0
    | k => exact ins h2 (by omega)
    | w i =>
      show InS _ (vsW.getD i nilV)
      rcases vW i with ⟨_, _, ho⟩ | ⟨_, e1, _⟩
      · exact ins ho (by omega)
      · rw [e1]; exact insN
    | f i =>
      show InS _ (vsF.getD i nilV)
      rcases vF i with ⟨_, _, ho⟩ | ⟨_, e1, _⟩
      · exact ins ho (by omega)
      · rw [e1]; exact insN
  · show InS _ (vsH.getD i nilV)
    rcases vH i with ⟨_, _, ho⟩ | ⟨_, e1, _⟩
    · exact ins ho (by omega)
    · rw [e1]; exact insN
set_option maxRecDepth 100000 in
set_option maxHeartbeats 4000000 in
theorem toBank_any (aC : Option Addr) (nC cC : Nat) (aW : Option Addr) (nW cW : Nat) (aK : Option Addr) (nK cK : Nat) (aH : Option Addr) (nH cH : Nat) (aF : Option Addr) (nF cF : Nat) (m : Bk) (w : World) (hz : BkZ m nC nW nK nH nF) (h1 : BkF w aC aW aK aH aF m) :
    Calls Try.prog 9 #[bkV aC nC cC aW nW cW aK nK cK aH nH cH aF nF cF] w fun e w' => ∃ v b0 b1 b2 b3 b4, e = .returned (bkV b0 nC nC b1 nW nW b2 nK nK b3 nH nH b4 nF nF) ∧ Fits v b0 nC nC b1 nW nW b2 nK nK b3 nH nH b4 nF nF ∧ BW w' (fun q => w.heap.size ≤ q ∧ q < w'.heap.size) v m ∧ Below w.heap.size w w' := by
  obtain ⟨W0, hW0⟩ : ∃ W0, ((w.alloc (bkL aC nC cC aW nW cW aK nK cK aH nH cH aF nF cF)).alloc zB).alloc zB = W0 := ⟨_, rfl⟩
  have hs0 : W0.heap.size = w.heap.size + 3 := by rw [← hW0]; simp
  have BX : Hid (Below w.heap.size w W0) := by rw [← hW0]; exact hide ((((Below.refl _ _).alloc (Nat.le_refl _) _).alloc (by simp) _).alloc (by simp; omega) _)
  have I0 : Hid (W0.heap[w.heap.size]? = some (bkL aC nC cC aW nW cW aK nK cK aH nH cH aF nF cF)) := by
    rw [← hW0]
    have hb := ((Below.refl (w.alloc (bkL aC nC cC aW nW cW aK nK cK aH nH cH aF nF cF)).heap.size (w.alloc (bkL aC nC cC aW nW cW aK nK cK aH nH cH aF nF cF))).alloc (Nat.le_refl _) zB).alloc (by simp) zB
    exact hide ((hb.block w.heap.size (by simp)).trans (blk_newO _ _))
  have R0 : Hid (W0.heap[w.heap.size + 1]? = some zB) := by
    rw [← hW0]
    have hb := (Below.refl ((w.alloc (bkL aC nC cC aW nW cW aK nK cK aH nH cH aF nF cF)).alloc zB).heap.size _).alloc (Nat.le_refl _) zB
    have h2 := blk_newO (w.alloc (bkL aC nC cC aW nW cW aK nK cK aH nH cH aF nF cF)) zB
    rw [World.size_alloc] at h2
    exact hide ((hb.block (w.heap.size + 1) (by simp)).trans h2)
  have O0 : Hid (W0.heap[w.heap.size + 2]? = some zB) := by
    rw [← hW0]
    have h2 := blk_newO ((w.alloc (bkL aC nC cC aW nW cW aK nK cK aH nH cH aF nF cF)).alloc zB) zB
    rw [World.size_alloc, World.size_alloc] at h2
    exact hide h2
  have C1 := hide (fun wx (hb : Below w.heap.size w wx) => toIntS_any aC m.c nC cC wx hz.c (h1.c.below hb) hz.bc)
  have C2 := hide (fun wx (hb : Below w.heap.size w wx) => toIntSS_any aW m.W nW cW wx hz.W (h1.W.below hb) hz.bW hz.sW)
  have C3 := hide (fun wx (hb : Below w.heap.size w wx) => toIntS_any aK m.k nK cK wx hz.k (h1.k.below hb) hz.bk)
  have C4 := hide (fun wx (hb : Below w.heap.size w wx) => toBoolSS_any aH m.H nH cH wx hz.H (h1.H.below hb) hz.bH hz.sH)
  have C5 := hide (fun wx (hb : Below w.heap.size w wx) => toIntSS_any aF m.F nF cF wx hz.F (h1.F.below hb) hz.bF hz.sF)
  have HW := hide hW0
  have HZZ := hide hz
  have HZ := hide hs0
  clear hW0 h1 hz hs0
  obtain ⟨k0, k1, k2, k3, k4⟩ := blk5 I0.out
  go_enter Try.func9, Try.ntmps9
  go_upto_region 2 with fail
  rw [HW.out]
  clear HW
  go_wp2_with fail
  refine (C1.out _ BX.out).mono ?_
  rintro e w1 ⟨rfl, hv1, hb⟩
  have zb := hb.size
  have Bx := hide (BX.out.trans (hb.mono BX.out.size))
  have Ix := hide ((hb.block w.heap.size (Array.getElem?_eq_some_iff.1 I0.out).1).trans I0.out)
  have Rx := hide ((hb.block (w.heap.size + 1) (Array.getElem?_eq_some_iff.1 R0.out).1).trans R0.out)
  have Ox := hide ((hb.block (w.heap.size + 2) (Array.getElem?_eq_some_iff.1 O0.out).1).trans O0.out)
  have x1 := hide hv1
  clear hv1 hb k0 k1 k2 k3 k4
  obtain ⟨k0, k1, k2, k3, k4⟩ := blk5 Ix.out
  have u0 := Ox.out
  obtain ⟨z0, z1, z2, z3, z4⟩ := blk5 u0
  have yf : ∀ i, w1.frozen? ⟨w.heap.size + 2, i, none⟩ = false := fun i => frzO u0 i
  clear u0
  go_upto_region 3 with fail
  obtain ⟨W1, hW⟩ : ∃ x, (w1).setCell ⟨w.heap.size + 2, 0, none⟩ (.slice (some ⟨W0.heap.size, 0, none⟩) nC nC) = x := ⟨_, rfl⟩
  have BB1 : Hid (Below w.heap.size w W1) := by rw [← hW]; exact hide (Bx.out.setCell (p := ⟨w.heap.size + 2, 0, none⟩) (by show w.heap.size ≤ w.heap.size + 2; omega) _)
  have I1 : Hid (W1.heap[w.heap.size]? = some (bkL aC nC cC aW nW cW aK nK cK aH nH cH aF nF cF)) := by rw [← hW]; exact hide ((Below.heap_setCell _ _ _ _ (show w.heap.size ≠ w.heap.size + 2 by omega)).trans Ix.out)
  have R1 : Hid (W1.heap[w.heap.size + 1]? = some zB) := by rw [← hW]; exact hide ((Below.heap_setCell _ _ _ _ (show w.heap.size + 1 ≠ w.heap.size + 2 by omega)).trans Rx.out)
  have O1 : Hid (W1.heap[w.heap.size + 2]? = some (.cells #[.slice (some ⟨W0.heap.size, 0, none⟩) nC nC, .slice none 0 0, .slice none 0 0, .slice none 0 0, .slice none 0 0] 30 (0, 0))) := by rw [← hW]; exact hide ((heap_boxO Ox.out 0 (.slice (some ⟨W0.heap.size, 0, none⟩) nC nC)).trans rfl)
  have Zs1 : Hid (W0.heap.size ≤ W1.heap.size) := by rw [← hW]; exact hide (by simp; exact zb)
  have A1_1 : Hid (W1.ownsRow W0.heap.size 3 1 (.slice (some ⟨W0.heap.size, 0, none⟩) nC nC) nC (m.c.map (Value.int .i64))) := by rw [← hW]; exact hide (own_setO x1.out ⟨w.heap.size + 2, 0, none⟩ (.slice (some ⟨W0.heap.size, 0, none⟩) nC nC) (by show w.heap.size + 2 < _; have := HZ.out; omega))
  have HLT1 : Hid (W0.heap.size < W1.heap.size) := hide (A1_1.out.lt W0.heap.size rfl).2
  rw [hW]
  clear hW Bx Ix Rx Ox zb z0 z1 z2 z3 z4 yf x1 k0 k1 k2 k3 k4
  obtain ⟨k0, k1, k2, k3, k4⟩ := blk5 I1.out
  go_wp2_with fail
  refine (C2.out _ BB1.out).mono ?_
  rintro e w2 ⟨rfl, ⟨⟨gW, ho2⟩, vsW, hv2⟩, _, hb⟩
  have zb := hb.size
  have Bx := hide (BB1.out.trans (hb.mono BB1.out.size))
  have Ix := hide ((hb.block w.heap.size (Array.getElem?_eq_some_iff.1 I1.out).1).trans I1.out)
  have Rx := hide ((hb.block (w.heap.size + 1) (Array.getElem?_eq_some_iff.1 R1.out).1).trans R1.out)
  have Ox := hide ((hb.block (w.heap.size + 2) (Array.getElem?_eq_some_iff.1 O1.out).1).trans O1.out)
  have x1 := hide (own_belO A1_1.out hb)
  have x2 := hide hv2
  have y2 := hide ho2
  clear ho2
  clear hv2 hb k0 k1 k2 k3 k4
  obtain ⟨k0, k1, k2, k3, k4⟩ := blk5 Ix.out
  have u0 := Ox.out
  obtain ⟨z0, z1, z2, z3, z4⟩ := blk5 u0
  have yf : ∀ i, w2.frozen? ⟨w.heap.size + 2, i, none⟩ = false := fun i => frzO u0 i
  clear u0
  go_upto_region 4 with fail
  obtain ⟨W2, hW⟩ : ∃ x, (w2).setCell ⟨w.heap.size + 2, 1, none⟩ (.slice (some ⟨W1.heap.size, 0, none⟩) nW nW) = x := ⟨_, rfl⟩
  have BB2 : Hid (Below w.heap.size w W2) := by rw [← hW]; exact hide (Bx.out.setCell (p := ⟨w.heap.size + 2, 1, none⟩) (by show w.heap.size ≤ w.heap.size + 2; omega) _)
  have I2 : Hid (W2.heap[w.heap.size]? = some (bkL aC nC cC aW nW cW aK nK cK aH nH cH aF nF cF)) := by rw [← hW]; exact hide ((Below.heap_setCell _ _ _ _ (show w.heap.size ≠ w.heap.size + 2 by omega)).trans Ix.out)
  have R2 : Hid (W2.heap[w.heap.size + 1]? = some zB) := by rw [← hW]; exact hide ((Below.heap_setCell _ _ _ _ (show w.heap.size + 1 ≠ w.heap.size + 2 by omega)).trans Rx.out)
  have O2 : Hid (W2.heap[w.heap.size + 2]? = some (.cells #[.slice (some ⟨W0.heap.size, 0, none⟩) nC nC, .slice (some ⟨W1.heap.size, 0, none⟩) nW nW, .slice none 0 0, .slice none 0 0, .slice none 0 0] 30 (0, 0))) := by rw [← hW]; exact hide ((heap_boxO Ox.out 1 (.slice (some ⟨W1.heap.size, 0, none⟩) nW nW)).trans rfl)
  have Zs2 : Hid (W1.heap.size ≤ W2.heap.size) := by rw [← hW]; exact hide (by simp; exact zb)
  have A1_2 : Hid (W2.ownsRow W0.heap.size 3 1 (.slice (some ⟨W0.heap.size, 0, none⟩) nC nC) nC (m.c.map (Value.int .i64))) := by rw [← hW]; exact hide (own_setO x1.out ⟨w.heap.size + 2, 1, none⟩ (.slice (some ⟨W1.heap.size, 0, none⟩) nW nW) (by show w.heap.size + 2 < _; have := HZ.out; have := Zs1.out; omega))
  have A2_2 : Hid (W2.ownsRow W1.heap.size 22 1 (.slice (some ⟨W1.heap.size, 0, none⟩) nW nW) nW vsW) := by rw [← hW]; exact hide (own_setO x2.out ⟨w.heap.size + 2, 1, none⟩ (.slice (some ⟨W1.heap.size, 0, none⟩) nW nW) (by show w.heap.size + 2 < _; have := HZ.out; have := Zs1.out; omega))
  have Y2_2 : Hid (OwnSI W2 W1.heap.size m.W gW nW) := by rw [← hW]; exact hide (ownSI_setO y2.out ⟨w.heap.size + 2, 1, none⟩ (.slice (some ⟨W1.heap.size, 0, none⟩) nW nW) (by show w.heap.size + 2 < _; have := HZ.out; have := Zs1.out; omega))
  have HLT2 : Hid (W1.heap.size < W2.heap.size) := hide (A2_2.out.lt W1.heap.size rfl).2
  have GL2 : Hid (∀ i, i < nW → gW i < W2.heap.size) := hide Y2_2.out.lt
  rw [hW]
  clear hW Bx Ix Rx Ox zb z0 z1 z2 z3 z4 yf x1 x2 y2 k0 k1 k2 k3 k4
  obtain ⟨k0, k1, k2, k3, k4⟩ := blk5 I2.out
  go_wp2_with fail
  refine (C3.out _ BB2.out).mono ?_
  rintro e w3 ⟨rfl, hv3, hb⟩
  have zb := hb.size
  have Bx := hide (BB2.out.trans (hb.mono BB2.out.size))
  have Ix := hide ((hb.block w.heap.size (Array.getElem?_eq_some_iff.1 I2.out).1).trans I2.out)
  have Rx := hide ((hb.block (w.heap.size + 1) (Array.getElem?_eq_some_iff.1 R2.out).1).trans R2.out)
  have Ox := hide ((hb.block (w.heap.size + 2) (Array.getElem?_eq_some_iff.1 O2.out).1).trans O2.out)
  have x1 := hide (own_belO A1_2.out hb)
  have x2 := hide (own_belO A2_2.out hb)
  have y2 := hide (Y2_2.out.below hb)
  have x3 := hide hv3
  clear hv3 hb k0 k1 k2 k3 k4
  obtain ⟨k0, k1, k2, k3, k4⟩ := blk5 Ix.out
  have u0 := Ox.out
  obtain ⟨z0, z1, z2, z3, z4⟩ := blk5 u0
  have yf : ∀ i, w3.frozen? ⟨w.heap.size + 2, i, none⟩ = false := fun i => frzO u0 i
  clear u0
  go_upto_region 5 with fail
  obtain ⟨W3, hW⟩ : ∃ x, (w3).setCell ⟨w.heap.size + 2, 2, none⟩ (.slice (some ⟨W2.heap.size, 0, none⟩) nK nK) = x := ⟨_, rfl⟩
  have BB3 : Hid (Below w.heap.size w W3) := by rw [← hW]; exact hide (Bx.out.setCell (p := ⟨w.heap.size + 2, 2, none⟩) (by show w.heap.size ≤ w.heap.size + 2; omega) _)
  have I3 : Hid (W3.heap[w.heap.size]? = some (bkL aC nC cC aW nW cW aK nK cK aH nH cH aF nF cF)) := by rw [← hW]; exact hide ((Below.heap_setCell _ _ _ _ (show w.heap.size ≠ w.heap.size + 2 by omega)).trans Ix.out)
  have R3 : Hid (W3.heap[w.heap.size + 1]? = some zB) := by rw [← hW]; exact hide ((Below.heap_setCell _ _ _ _ (show w.heap.size + 1 ≠ w.heap.size + 2 by omega)).trans Rx.out)
  have O3 : Hid (W3.heap[w.heap.size + 2]? = some (.cells #[.slice (some ⟨W0.heap.size, 0, none⟩) nC nC, .slice (some ⟨W1.heap.size, 0, none⟩) nW nW, .slice (some ⟨W2.heap.size, 0, none⟩) nK nK, .slice none 0 0, .slice none 0 0] 30 (0, 0))) := by rw [← hW]; exact hide ((heap_boxO Ox.out 2 (.slice (some ⟨W2.heap.size, 0, none⟩) nK nK)).trans rfl)
  have Zs3 : Hid (W2.heap.size ≤ W3.heap.size) := by rw [← hW]; exact hide (by simp; exact zb)
  have A1_3 : Hid (W3.ownsRow W0.heap.size 3 1 (.slice (some ⟨W0.heap.size, 0, none⟩) nC nC) nC (m.c.map (Value.int .i64))) := by rw [← hW]; exact hide (own_setO x1.out ⟨w.heap.size + 2, 2, none⟩ (.slice (some ⟨W2.heap.size, 0, none⟩) nK nK) (by show w.heap.size + 2 < _; have := HZ.out; have := Zs1.out; have := Zs2.out; omega))
  have A2_3 : Hid (W3.ownsRow W1.heap.size 22 1 (.slice (some ⟨W1.heap.size, 0, none⟩) nW nW) nW vsW) := by rw [← hW]; exact hide (own_setO x2.out ⟨w.heap.size + 2, 2, none⟩ (.slice (some ⟨W2.heap.size, 0, none⟩) nK nK) (by show w.heap.size + 2 < _; have := HZ.out; have := Zs1.out; have := Zs2.out; omega))
  have Y2_3 : Hid (OwnSI W3 W1.heap.size m.W gW nW) := by rw [← hW]; exact hide (ownSI_setO y2.out ⟨w.heap.size + 2, 2, none⟩ (.slice (some ⟨W2.heap.size, 0, none⟩) nK nK) (by show w.heap.size + 2 < _; have := HZ.out; have := Zs1.out; have := Zs2.out; omega))
  have A3_3 : Hid (W3.ownsRow W2.heap.size 3 1 (.slice (some ⟨W2.heap.size, 0, none⟩) nK nK) nK (m.k.map (Value.int .i64))) := by rw [← hW]; exact hide (own_setO x3.out ⟨w.heap.size + 2, 2, none⟩ (.slice (some ⟨W2.heap.size, 0, none⟩) nK nK) (by show w.heap.size + 2 < _; have := HZ.out; have := Zs1.out; have := Zs2.out; omega))
  have HLT3 : Hid (W2.heap.size < W3.heap.size) := hide (A3_3.out.lt W2.heap.size rfl).2
  rw [hW]
  clear hW Bx Ix Rx Ox zb z0 z1 z2 z3 z4 yf x1 x2 y2 x3 k0 k1 k2 k3 k4
  obtain ⟨k0, k1, k2, k3, k4⟩ := blk5 I3.out
  go_wp2_with fail
  refine (C4.out _ BB3.out).mono ?_
  rintro e w4 ⟨rfl, ⟨⟨gH, ho4⟩, vsH, hv4⟩, _, hb⟩
  have zb := hb.size
  have Bx := hide (BB3.out.trans (hb.mono BB3.out.size))
  have Ix := hide ((hb.block w.heap.size (Array.getElem?_eq_some_iff.1 I3.out).1).trans I3.out)
  have Rx := hide ((hb.block (w.heap.size + 1) (Array.getElem?_eq_some_iff.1 R3.out).1).trans R3.out)
  have Ox := hide ((hb.block (w.heap.size + 2) (Array.getElem?_eq_some_iff.1 O3.out).1).trans O3.out)
  have x1 := hide (own_belO A1_3.out hb)
  have x2 := hide (own_belO A2_3.out hb)
  have y2 := hide (Y2_3.out.below hb)
  have x3 := hide (own_belO A3_3.out hb)
  have x4 := hide hv4
  have y4 := hide ho4
  clear ho4
  clear hv4 hb k0 k1 k2 k3 k4
  obtain ⟨k0, k1, k2, k3, k4⟩ := blk5 Ix.out
  have u0 := Ox.out
  obtain ⟨z0, z1, z2, z3, z4⟩ := blk5 u0
  have yf : ∀ i, w4.frozen? ⟨w.heap.size + 2, i, none⟩ = false := fun i => frzO u0 i
  clear u0
  go_upto_region 6 with fail
  obtain ⟨W4, hW⟩ : ∃ x, (w4).setCell ⟨w.heap.size + 2, 3, none⟩ (.slice (some ⟨W3.heap.size, 0, none⟩) nH nH) = x := ⟨_, rfl⟩
  have BB4 : Hid (Below w.heap.size w W4) := by rw [← hW]; exact hide (Bx.out.setCell (p := ⟨w.heap.size + 2, 3, none⟩) (by show w.heap.size ≤ w.heap.size + 2; omega) _)
  have I4 : Hid (W4.heap[w.heap.size]? = some (bkL aC nC cC aW nW cW aK nK cK aH nH cH aF nF cF)) := by rw [← hW]; exact hide ((Below.heap_setCell _ _ _ _ (show w.heap.size ≠ w.heap.size + 2 by omega)).trans Ix.out)
  have R4 : Hid (W4.heap[w.heap.size + 1]? = some zB) := by rw [← hW]; exact hide ((Below.heap_setCell _ _ _ _ (show w.heap.size + 1 ≠ w.heap.size + 2 by omega)).trans Rx.out)
  have O4 : Hid (W4.heap[w.heap.size + 2]? = some (.cells #[.slice (some ⟨W0.heap.size, 0, none⟩) nC nC, .slice (some ⟨W1.heap.size, 0, none⟩) nW nW, .slice (some ⟨W2.heap.size, 0, none⟩) nK nK, .slice (some ⟨W3.heap.size, 0, none⟩) nH nH, .slice none 0 0] 30 (0, 0))) := by rw [← hW]; exact hide ((heap_boxO Ox.out 3 (.slice (some ⟨W3.heap.size, 0, none⟩) nH nH)).trans rfl)
  have Zs4 : Hid (W3.heap.size ≤ W4.heap.size) := by rw [← hW]; exact hide (by simp; exact zb)
  have A1_4 : Hid (W4.ownsRow W0.heap.size 3 1 (.slice (some ⟨W0.heap.size, 0, none⟩) nC nC) nC (m.c.map (Value.int .i64))) := by rw [← hW]; exact hide (own_setO x1.out ⟨w.heap.size + 2, 3, none⟩ (.slice (some ⟨W3.heap.size, 0, none⟩) nH nH) (by show w.heap.size + 2 < _; have := HZ.out; have := Zs1.out; have := Zs2.out; have := Zs3.out; omega))
  have A2_4 : Hid (W4.ownsRow W1.heap.size 22 1 (.slice (some ⟨W1.heap.size, 0, none⟩) nW nW) nW vsW) := by rw [← hW]; exact hide (own_setO x2.out ⟨w.heap.size + 2, 3, none⟩ (.slice (some ⟨W3.heap.size, 0, none⟩) nH nH) (by show w.heap.size + 2 < _; have := HZ.out; have := Zs1.out; have := Zs2.out; have := Zs3.out; omega))
  have Y2_4 : Hid (OwnSI W4 W1.heap.size m.W gW nW) := by rw [← hW]; exact hide (ownSI_setO y2.out ⟨w.heap.size + 2, 3, none⟩ (.slice (some ⟨W3.heap.size, 0, none⟩) nH nH) (by show w.heap.size + 2 < _; have := HZ.out; have := Zs1.out; have := Zs2.out; have := Zs3.out; omega))
  have A3_4 : Hid (W4.ownsRow W2.heap.size 3 1 (.slice (some ⟨W2.heap.size, 0, none⟩) nK nK) nK (m.k.map (Value.int .i64))) := by rw [← hW]; exact hide (own_setO x3.out ⟨w.heap.size + 2, 3, none⟩ (.slice (some ⟨W3.heap.size, 0, none⟩) nH nH) (by show w.heap.size + 2 < _; have := HZ.out; have := Zs1.out; have := Zs2.out; have := Zs3.out; omega))
  have A4_4 : Hid (W4.ownsRow W3.heap.size 52 1 (.slice (some ⟨W3.heap.size, 0, none⟩) nH nH) nH vsH) := by rw [← hW]; exact hide (own_setO x4.out ⟨w.heap.size + 2, 3, none⟩ (.slice (some ⟨W3.heap.size, 0, none⟩) nH nH) (by show w.heap.size + 2 < _; have := HZ.out; have := Zs1.out; have := Zs2.out; have := Zs3.out; omega))
  have Y4_4 : Hid (OwnSB W4 W3.heap.size m.H gH nH) := by rw [← hW]; exact hide (ownSB_setO y4.out ⟨w.heap.size + 2, 3, none⟩ (.slice (some ⟨W3.heap.size, 0, none⟩) nH nH) (by show w.heap.size + 2 < _; have := HZ.out; have := Zs1.out; have := Zs2.out; have := Zs3.out; omega))
  have HLT4 : Hid (W3.heap.size < W4.heap.size) := hide (A4_4.out.lt W3.heap.size rfl).2
  have GL4 : Hid (∀ i, i < nH → gH i < W4.heap.size) := hide Y4_4.out.lt
  rw [hW]
  clear hW Bx Ix Rx Ox zb z0 z1 z2 z3 z4 yf x1 x2 y2 x3 x4 y4 k0 k1 k2 k3 k4
  obtain ⟨k0, k1, k2, k3, k4⟩ := blk5 I4.out
  go_wp2_with fail
  refine (C5.out _ BB4.out).mono ?_
  rintro e w5 ⟨rfl, ⟨⟨gF, ho5⟩, vsF, hv5⟩, _, hb⟩
  have zb := hb.size
  have Bx := hide (BB4.out.trans (hb.mono BB4.out.size))
  have Ix := hide ((hb.block w.heap.size (Array.getElem?_eq_some_iff.1 I4.out).1).trans I4.out)
  have Rx := hide ((hb.block (w.heap.size + 1) (Array.getElem?_eq_some_iff.1 R4.out).1).trans R4.out)
  have Ox := hide ((hb.block (w.heap.size + 2) (Array.getElem?_eq_some_iff.1 O4.out).1).trans O4.out)
  have x1 := hide (own_belO A1_4.out hb)
  have x2 := hide (own_belO A2_4.out hb)
  have y2 := hide (Y2_4.out.below hb)
  have x3 := hide (own_belO A3_4.out hb)
  have x4 := hide (own_belO A4_4.out hb)
  have y4 := hide (Y4_4.out.below hb)
  have x5 := hide hv5
  have y5 := hide ho5
  clear ho5
  clear hv5 hb k0 k1 k2 k3 k4
  obtain ⟨k0, k1, k2, k3, k4⟩ := blk5 Ix.out
  have u0 := Ox.out
  obtain ⟨z0, z1, z2, z3, z4⟩ := blk5 u0
  have yf : ∀ i, w5.frozen? ⟨w.heap.size + 2, i, none⟩ = false := fun i => frzO u0 i
  clear u0
  go_upto_region 7 with fail
  obtain ⟨W5, hW⟩ : ∃ x, (w5).setCell ⟨w.heap.size + 2, 4, none⟩ (.slice (some ⟨W4.heap.size, 0, none⟩) nF nF) = x := ⟨_, rfl⟩
  have BB5 : Hid (Below w.heap.size w W5) := by rw [← hW]; exact hide (Bx.out.setCell (p := ⟨w.heap.size + 2, 4, none⟩) (by show w.heap.size ≤ w.heap.size + 2; omega) _)
  have I5 : Hid (W5.heap[w.heap.size]? = some (bkL aC nC cC aW nW cW aK nK cK aH nH cH aF nF cF)) := by rw [← hW]; exact hide ((Below.heap_setCell _ _ _ _ (show w.heap.size ≠ w.heap.size + 2 by omega)).trans Ix.out)
  have R5 : Hid (W5.heap[w.heap.size + 1]? = some zB) := by rw [← hW]; exact hide ((Below.heap_setCell _ _ _ _ (show w.heap.size + 1 ≠ w.heap.size + 2 by omega)).trans Rx.out)
  have O5 : Hid (W5.heap[w.heap.size + 2]? = some (.cells #[.slice (some ⟨W0.heap.size, 0, none⟩) nC nC, .slice (some ⟨W1.heap.size, 0, none⟩) nW nW, .slice (some ⟨W2.heap.size, 0, none⟩) nK nK, .slice (some ⟨W3.heap.size, 0, none⟩) nH nH, .slice (some ⟨W4.heap.size, 0, none⟩) nF nF] 30 (0, 0))) := by rw [← hW]; exact hide ((heap_boxO Ox.out 4 (.slice (some ⟨W4.heap.size, 0, none⟩) nF nF)).trans rfl)
  have Zs5 : Hid (W4.heap.size ≤ W5.heap.size) := by rw [← hW]; exact hide (by simp; exact zb)
  have A1_5 : Hid (W5.ownsRow W0.heap.size 3 1 (.slice (some ⟨W0.heap.size, 0, none⟩) nC nC) nC (m.c.map (Value.int .i64))) := by rw [← hW]; exact hide (own_setO x1.out ⟨w.heap.size + 2, 4, none⟩ (.slice (some ⟨W4.heap.size, 0, none⟩) nF nF) (by show w.heap.size + 2 < _; have := HZ.out; have := Zs1.out; have := Zs2.out; have := Zs3.out; have := Zs4.out; omega))
  have A2_5 : Hid (W5.ownsRow W1.heap.size 22 1 (.slice (some ⟨W1.heap.size, 0, none⟩) nW nW) nW vsW) := by rw [← hW]; exact hide (own_setO x2.out ⟨w.heap.size + 2, 4, none⟩ (.slice (some ⟨W4.heap.size, 0, none⟩) nF nF) (by show w.heap.size + 2 < _; have := HZ.out; have := Zs1.out; have := Zs2.out; have := Zs3.out; have := Zs4.out; omega))
  have Y2_5 : Hid (OwnSI W5 W1.heap.size m.W gW nW) := by rw [← hW]; exact hide (ownSI_setO y2.out ⟨w.heap.size + 2, 4, none⟩ (.slice (some ⟨W4.heap.size, 0, none⟩) nF nF) (by show w.heap.size + 2 < _; have := HZ.out; have := Zs1.out; have := Zs2.out; have := Zs3.out; have := Zs4.out; omega))
  have A3_5 : Hid (W5.ownsRow W2.heap.size 3 1 (.slice (some ⟨W2.heap.size, 0, none⟩) nK nK) nK (m.k.map (Value.int .i64))) := by rw [← hW]; exact hide (own_setO x3.out ⟨w.heap.size + 2, 4, none⟩ (.slice (some ⟨W4.heap.size, 0, none⟩) nF nF) (by show w.heap.size + 2 < _; have := HZ.out; have := Zs1.out; have := Zs2.out; have := Zs3.out; have := Zs4.out; omega))
  have A4_5 : Hid (W5.ownsRow W3.heap.size 52 1 (.slice (some ⟨W3.heap.size, 0, none⟩) nH nH) nH vsH) := by rw [← hW]; exact hide (own_setO x4.out ⟨w.heap.size + 2, 4, none⟩ (.slice (some ⟨W4.heap.size, 0, none⟩) nF nF) (by show w.heap.size + 2 < _; have := HZ.out; have := Zs1.out; have := Zs2.out; have := Zs3.out; have := Zs4.out; omega))
  have Y4_5 : Hid (OwnSB W5 W3.heap.size m.H gH nH) := by rw [← hW]; exact hide (ownSB_setO y4.out ⟨w.heap.size + 2, 4, none⟩ (.slice (some ⟨W4.heap.size, 0, none⟩) nF nF) (by show w.heap.size + 2 < _; have := HZ.out; have := Zs1.out; have := Zs2.out; have := Zs3.out; have := Zs4.out; omega))
  have A5_5 : Hid (W5.ownsRow W4.heap.size 22 1 (.slice (some ⟨W4.heap.size, 0, none⟩) nF nF) nF vsF) := by rw [← hW]; exact hide (own_setO x5.out ⟨w.heap.size + 2, 4, none⟩ (.slice (some ⟨W4.heap.size, 0, none⟩) nF nF) (by show w.heap.size + 2 < _; have := HZ.out; have := Zs1.out; have := Zs2.out; have := Zs3.out; have := Zs4.out; omega))
  have Y5_5 : Hid (OwnSI W5 W4.heap.size m.F gF nF) := by rw [← hW]; exact hide (ownSI_setO y5.out ⟨w.heap.size + 2, 4, none⟩ (.slice (some ⟨W4.heap.size, 0, none⟩) nF nF) (by show w.heap.size + 2 < _; have := HZ.out; have := Zs1.out; have := Zs2.out; have := Zs3.out; have := Zs4.out; omega))
  have HLT5 : Hid (W4.heap.size < W5.heap.size) := hide (A5_5.out.lt W4.heap.size rfl).2
  have GL5 : Hid (∀ i, i < nF → gF i < W5.heap.size) := hide Y5_5.out.lt
  rw [hW]
  clear hW Bx Ix Rx Ox zb z0 z1 z2 z3 z4 yf x1 x2 y2 x3 x4 y4 x5 y5 k0 k1 k2 k3 k4
  obtain ⟨k0, k1, k2, k3, k4⟩ := blk5 I5.out
  obtain ⟨y0, y1, y2, y3, y4⟩ := blk5 O5.out
  have r0 := R5.out
  obtain ⟨z0, z1, z2, z3, z4⟩ := blk5 r0
  have zf : ∀ i, W5.frozen? ⟨w.heap.size + 1, i, none⟩ = false := fun i => frzO r0 i
  clear r0
  go_wp2
  refine bodyPost_ret (v := bkV (some ⟨W0.heap.size, 0, none⟩) nC nC (some ⟨W1.heap.size, 0, none⟩) nW nW (some ⟨W2.heap.size, 0, none⟩) nK nK (some ⟨W3.heap.size, 0, none⟩) nH nH (some ⟨W4.heap.size, 0, none⟩) nF nF) ?_ rfl ?_
  · simp [results, Try.f9, go_sem, z0, z1, z2, z3, z4]
  · have q0 := HZ.out
    have q1 := HLT1.out
    have q2 := HLT2.out
    have q3 := HLT3.out
    have q4 := HLT4.out
    have hT := five_bw (z := w.heap.size + 1) (N := w.heap.size) (by omega) HZZ.out A1_5.out Y2_5.out A2_5.out A3_5.out Y4_5.out A4_5.out Y5_5.out A5_5.out (by omega) q1 q2 q3 q4 GL2.out
    exact ⟨_, _, _, _, _, _, rfl, ⟨rfl, rfl, rfl, rfl, rfl⟩, hT _ _ _ _ _, five_bel BB5.out (by omega) _ _ _ _ _⟩
end Go.Proofs.Ytfjbiihiaoobhaj.L12
