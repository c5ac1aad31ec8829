/-
  Contracts of the laws' own helpers on lists of ints: laws.toIntS copies a list into new memory.
  Contracts of the laws' own helpers: laws.toPiece, laws.toPieceS, laws.toLog copy a log into new memory.
  Cells that stay where they are. Nothing of the program's text is proved here.
  Contracts of the laws' own helpers: laws.eqPiece, laws.eqPieceS, laws.eqLog say that what is alike is alike.
  Contract of the laws' own helper toLog: it copies a log into new memory.
  'copy' of pieces, each of three cells, into a row that is owned whole. Nothing of the program's text is proved here but closed facts on its types.
  What stays where one block alone is written into. Nothing of the program's text is proved here.
  Contracts of the laws' own helpers: laws.markIntS writes rising numbers into a list that the caller owns, laws.heldIntS finds them there.
-/
import Derived.Test.YtapffbbmofhpobaDoorBundle2
import Derived.Deep.RegionHeld3
import Derived.Laws.CopyOwn
import Derived.Maps.AppendAt
import Derived.Deep.Upon
import Derived.Test.YtapffbbmofhpobaDoorBundle1
namespace Go.Proofs.YtapffbbmofhpobaDoor.L1
open Go.RowKit
set_option linter.unusedVariables false

set_option maxRecDepth 100000 in
set_option maxHeartbeats 1000000 in
theorem toIntS_any (a : Option Addr) (xs : List Int) (n cap : Nat) (w : World) (hn : xs.length = n) (hs : Sl w a xs) (hn2 : n ≤ 1048576) :
    Calls Tryd.prog 61 #[.slice a n cap] w fun e w' => e = .returned (.slice (some ⟨w.heap.size, 0, none⟩) n n) ∧
      w'.ownsRow w.heap.size 3 1 (.slice (some ⟨w.heap.size, 0, none⟩) n n) n (xs.map (Value.int .i64)) ∧ Below w.heap.size w w' := by
  obtain ⟨i0, hi, hz0, hz1, hz2⟩ := info_parts info_int
  obtain ⟨w1, hmk, hown1, hg1⟩ := run_make_full (P := Tryd.prog) w w.heap.size 35 3 i0 (.int .i64 0) 1 Tryd.underlying35 hi hz0 hz1 .i64 .i64 n (by rw [hz2]; omega) (by unfold maxLen; omega) (Nat.le_refl _)
  rw [made_ints] at hown1
  have hb1 : Below w.heap.size w w1 := (Below.refl _ _).grown hg1 (Nat.le_refl _) (fun k hk => by cases hk)
  have HO := hide hown1
  have HS := hide hs
  have HN := hide hn
  clear hown1 hg1 hs hn
  go_enter Tryd.func61, Tryd.ntmps61
  go_wp2
  go_loopw [4] (fun i wr => ∃ (k : Nat) (ys : List Int), k ≤ n ∧ i = .int .i64 k ∧ ys.length = n ∧ Hid (∀ j, j < k → ys.getD j 0 = xs.getD j 0) ∧
      wr.ownsRow w.heap.size 3 1 (.slice (some ⟨w.heap.size, 0, none⟩) n n) n (ys.map (Value.int .i64)) ∧ Below w.heap.size w wr) (fun i _ => n - (intOf i).toNat)
  case atStart => exact ⟨0, List.replicate n 0, Nat.zero_le _, rfl, by simp, fun j hj => absurd hj (Nat.not_lt_zero _), HO, hb1⟩
  case round =>
    obtain ⟨k, ys, hk, rfl, hyl, HX, hown, hbel⟩ := hrel
    have HL := hide hyl
    clear hyl
    by_cases hlt : k < n
    · obtain ⟨b, off, rfl, hc0⟩ := HS.out k (by rw [HN.out]; exact hlt)
      have hc : wr.cell? ⟨b, off + k, none⟩ = some (.int .i64 (xs.getD k 0)) := by
        rw [hbel.cell (p := ⟨b, off + k, none⟩) (blk_lt hc0)]
        exact hc0
      clear hc0
      have hcl := hown.cellAt k (by omega)
      have hfr := hown.frozenAt k
      have hltI : (k : Int) < (n : Int) := by omega
      obtain ⟨v, hv⟩ : ∃ v, wr.cell? ⟨w.heap.size, k, none⟩ = some v := ⟨_, hcl.trans (List.getElem?_eq_getElem (by have := HL.out; simp; omega))⟩
      have R := copy_round hlt HN.out HL.out HX.out hown hbel
      obtain ⟨x, hx⟩ : ∃ x, x = xs.getD k 0 := ⟨_, rfl⟩
      rw [← hx] at hc R
      have HR := hide R
      clear hcl hx R
      go_wp2
      go_roundw
      case rel => exact HR.out
      case measure => simp [intOf]; omega
    · have e : ys = xs := list_same HN.out HL.out (fun j hj => HX.out j (by omega))
      subst e
      have hltI : ¬ (k : Int) < (n : Int) := by omega
      go_wp2
      go_ret
      exact ⟨rfl, hown, hbel⟩

end Go.Proofs.YtapffbbmofhpobaDoor.L1

namespace Go.Proofs.YtapffbbmofhpobaDoor.L6
open Go.RowKit L1
set_option linter.unusedVariables false

set_option maxRecDepth 100000 in
set_option maxHeartbeats 1000000 in
theorem toPiece_any (f : Int) (s : ByteArray) (a : Option Addr) (xs : List Int) (n cap : Nat) (w : World) (hn : xs.length = n) (hs : Sl w a xs) (hn2 : n ≤ 1048576) :
    Calls Tryd.prog 49 #[.agg #[.int .i64 f, .string s, .slice a n cap]] w fun e w' => ∃ g, e = .returned (.agg #[.int .i64 f, .string s, .slice (some ⟨g, 0, none⟩) n n]) ∧ w'.ownsRow w.heap.size 3 1 (.slice (some ⟨g, 0, none⟩) n n) n (xs.map (Value.int .i64)) ∧ Below w.heap.size w w' := by
  have C := hide (fun w (hs : Sl w a xs) => toIntS_any a xs n cap w hn hs hn2)
  have HS := hide hs
  clear hs hn
  go_enter Tryd.func49, Tryd.ntmps49
  go_wp2_with fail
  refine (C.out _ (HS.out.below ((((Below.refl _ _).alloc (Nat.le_refl _) _).alloc (by simp) _).alloc (by simp; omega) _))).mono ?_
  rintro e w1 ⟨rfl, ho, hb⟩
  obtain ⟨b3, b2, b1, bz⟩ := blk_three w (.cells #[.int .i64 f, .string s, .slice a n cap] 62 (0, 0)) (.cells #[.int .i64 0, .string ByteArray.empty, .slice none 0 0] 37 (0, 0)) (.cells #[.int .i64 f, .string s, .slice none 0 0] 37 (0, 0))
  have G3 := (hb.block (w.heap.size + 2) (by simp)).trans b3
  have G2 := (hb.block (w.heap.size + 1) (by simp)).trans b2
  obtain ⟨c0, c1, c2, c3, c4, c5⟩ := blk3 G3
  obtain ⟨d0, d1, d2, d3, d4, d5⟩ := blk3 G2
  have hsz : w.heap.size + 2 < w1.heap.size := (Array.getElem?_eq_some_iff.1 G3).1
  have ho' : w1.ownsRow (w.heap.size + 3) 3 1 (.slice (some ⟨w.heap.size + 1 + 1 + 1, 0, none⟩) n n) n (xs.map (Value.int .i64)) := by
    simp only [World.size_alloc] at ho
    exact own_baseC ho (by omega)
  have H1 := hide ho'
  clear ho'
  have BB0 := hide (hb.mono (show w.heap.size ≤ _ by simp; omega))
  have BB := hide ((((Below.refl w.heap.size w).alloc (Nat.le_refl _) (.cells #[.int .i64 f, .string s, .slice a n cap] 62 (0, 0))).alloc (by simp) (.cells #[.int .i64 0, .string ByteArray.empty, .slice none 0 0] 37 (0, 0))).alloc (by simp; omega) (.cells #[.int .i64 f, .string s, .slice none 0 0] 37 (0, 0)))
  clear ho hb G3 G2 b1 b2 b3 bz
  go_wp2
  refine bodyPost_ret (v := .agg #[.int .i64 f, .string s, .slice (some ⟨w.heap.size + 1 + 1 + 1, 0, none⟩) n n]) (by simp [results, Tryd.f49, go_sem, d0, d1, d2]) rfl ⟨_, rfl, ?_, ?_⟩
  · have z1 : w.heap.size + 1 + 1 < w.heap.size + 3 := by omega
    have z2 : w.heap.size + 1 < w.heap.size + 3 := by omega
    exact own_baseC (b1 := w.heap.size + 3) (own_setC (own_setC (own_setC (own_setC H1.out ⟨_, _, none⟩ _ z1) ⟨_, _, none⟩ _ z2) ⟨_, _, none⟩ _ z2) ⟨_, _, none⟩ _ z2) (by omega)
  · exact ((((BB.out.trans BB0.out).setCell (p := ⟨_, _, none⟩) (by show w.heap.size ≤ w.heap.size + 1 + 1; omega) _).setCell (p := ⟨_, _, none⟩) (by show w.heap.size ≤ w.heap.size + 1; omega) _).setCell (p := ⟨_, _, none⟩) (by show w.heap.size ≤ w.heap.size + 1; omega) _).setCell (p := ⟨_, _, none⟩) (by show w.heap.size ≤ w.heap.size + 1; omega) _

set_option maxRecDepth 100000 in
set_option maxHeartbeats 4000000 in
theorem toPieceS_any (a : Option Addr) (L : List Pc) (n cap : Nat) (w : World) (hn : L.length = n) (hs : SlC w a L) (hn2 : n ≤ 1048576) (hsz : ∀ i, i < n → (gc L i).x.length ≤ 1048576) :
    Calls Tryd.prog 27 #[.slice a n cap] w fun e w' => e = .returned (.slice (some ⟨w.heap.size, 0, none⟩) n n) ∧ (∃ M, pcs M = L ∧ OwC w' w.heap.size (.slice (some ⟨w.heap.size, 0, none⟩) n n) n M) ∧ Below w.heap.size w w' := by
  obtain ⟨i0, hi, hz0, hz1, hz2⟩ := info_parts info_piece
  obtain ⟨w1, hmk, hown1, hg1⟩ := run_make_full (P := Tryd.prog) w w.heap.size 26 37 i0 (.agg #[.int .i64 0, .string ByteArray.empty, .slice none 0 0]) 3 Tryd.underlying26 hi hz0 hz1 .i64 .i64 n (by rw [hz2]; omega) (by unfold maxLen; omega) (Nat.le_refl _)
  rw [made_cs] at hown1
  have hb1 : Below w.heap.size w w1 := (Below.refl _ _).grown hg1 (Nat.le_refl _) (fun k hk => by cases hk)
  have HO := hide (own_zero hown1)
  have HS := hide hs
  have HN := hide hn
  have HSZ := hide hsz
  clear hown1 hg1 hs hn hsz
  go_enter Tryd.func27, Tryd.ntmps27
  go_wp2
  go_loopw [4] (fun i wr => ∃ (k : Nat) (M : List PV), k ≤ n ∧ i = .int .i64 k ∧ Hid (∀ j, j < k → (M.getD j eV).1 = gc L j) ∧ OwC wr w.heap.size (.slice (some ⟨w.heap.size, 0, none⟩) n n) n M ∧ Below w.heap.size w wr) (fun i _ => n - (intOf i).toNat)
  case atStart => exact ⟨0, List.replicate n eV, Nat.zero_le _, rfl, fun j hj => absurd hj (Nat.not_lt_zero _), HO.out, hb1⟩
  case round =>
    obtain ⟨k, M, hk, rfl, HX, hown, hbel⟩ := hrel
    by_cases hlt : k < n
    · obtain ⟨b, off, rfl, ai, ci, hat⟩ := HS.out.below hbel k (by rw [HN.out]; exact hlt)
      have hxl := HSZ.out k hlt
      have hd1 := hat.f
      have hd2 := hat.s
      have hd3 := hat.x
      have hd4 := hat.l
      obtain ⟨p, hp⟩ : ∃ p, p = gc L k := ⟨_, rfl⟩
      rw [show L.getD k eC = p from hp.symm] at hd1 hd2 hd3 hd4
      rw [← hp] at hxl
      obtain ⟨f, s, x⟩ := p
      simp only at hd1 hd2 hd3 hd4 hxl
      obtain ⟨m, hm⟩ : ∃ m, m = x.length := ⟨_, rfl⟩
      rw [← hm] at hd3 hxl
      have hltI : (k : Int) < (n : Int) := by omega
      have C := hide (toPiece_any f s ai x m ci wr hm.symm hd4 hxl)
      have HP := hide hp
      have HM := hide hm
      have O := hide hown
      have B := hide hbel
      clear hat hd4 hp hm hown hbel
      go_wp2_with fail
      refine C.out.mono ?_
      rintro e w2 ⟨g, rfl, ho2, hb2⟩
      have O2 := O.out.below hb2
      have hB2 := B.out.trans (hb2.mono B.out.size)
      have hl := O2.len
      have hfl : (flatC M).length = n * 3 := by rw [flatC_len, hl]
      have hcl0 := O2.row.cellAt (k * 3) (by omega)
      have hfr0 := O2.row.frozenAt (k * 3)
      obtain ⟨v0, hv0⟩ : ∃ v, w2.cell? ⟨w.heap.size, k * 3, none⟩ = some v := ⟨_, hcl0.trans (List.getElem?_eq_getElem (by omega))⟩
      have hcl1 := O2.row.cellAt (k * 3 + 1) (by omega)
      have hfr1 := O2.row.frozenAt (k * 3 + 1)
      obtain ⟨v1, hv1⟩ : ∃ v, w2.cell? ⟨w.heap.size, k * 3 + 1, none⟩ = some v := ⟨_, hcl1.trans (List.getElem?_eq_getElem (by omega))⟩
      have hcl2 := O2.row.cellAt (k * 3 + 2) (by omega)
      have hfr2 := O2.row.frozenAt (k * 3 + 2)
      obtain ⟨v2, hv2⟩ : ∃ v, w2.cell? ⟨w.heap.size, k * 3 + 2, none⟩ = some v := ⟨_, hcl2.trans (List.getElem?_eq_getElem (by omega))⟩
      have hP := O2.put k hlt ⟨f, s, x⟩ (.slice (some ⟨g, 0, none⟩) m m) (by show w2.ownsRow _ _ _ _ x.length _; rw [← HM.out]; exact own_baseC ho2 B.out.size) (fun i hi _ b hb e => by
        have h1 := (own_ltC (O.out.idx i hi) b e).2
        have h2 := (own_ltC ho2 b hb).1
        omega)
      have R : ∃ (k' : Nat) (M' : List PV), k' ≤ n ∧ Value.int .i64 ((k : Int) + 1) = .int .i64 k' ∧ Hid (∀ j, j < k' → (M'.getD j eV).1 = gc L j) ∧ OwC (((w2.setCell ⟨w.heap.size, k * 3, none⟩ (.int .i64 f)).setCell ⟨w.heap.size, k * 3 + 1, none⟩ (.string s)).setCell ⟨w.heap.size, k * 3 + 2, none⟩ (.slice (some ⟨g, 0, none⟩) m m)) w.heap.size (.slice (some ⟨w.heap.size, 0, none⟩) n n) n M' ∧ Below w.heap.size w (((w2.setCell ⟨w.heap.size, k * 3, none⟩ (.int .i64 f)).setCell ⟨w.heap.size, k * 3 + 1, none⟩ (.string s)).setCell ⟨w.heap.size, k * 3 + 2, none⟩ (.slice (some ⟨g, 0, none⟩) m m)) := by
        refine ⟨k + 1, _, by omega, by simp, fun j hj => ?_, hP.1, hB2.grown hP.2 (hB2.size) (fun q hq => by cases hq; exact Nat.le_refl _)⟩
        by_cases e : j = k
        · subst e
          rw [getD_set_self M j _ (by omega)]
          exact HP.out
        · rw [getD_set_ne M k j _ e]
          exact HX.out j (by omega)
      have HR := hide R
      clear hcl0 hcl1 hcl2 hfl hl O2 hB2 hP R ho2 hb2
      go_wp2
      go_roundw
      case rel => exact HR.out
      case measure => simp [intOf]; omega
    · obtain rfl : k = n := by omega
      have hltI : ¬ (k : Int) < (k : Int) := by omega
      have E := list_sameC hown.len HN.out HX.out
      have O := hide hown
      have HE := hide E
      clear hown E
      go_wp2
      go_ret
      exact ⟨rfl, ⟨M, HE.out, O.out⟩, hbel⟩
end Go.Proofs.YtapffbbmofhpobaDoor.L6

namespace Go.Proofs.YtapffbbmofhpobaDoor.L6
open Go.RowKit L1
set_option linter.unusedVariables false

theorem blk_ltA {w : World} {p : Addr} {v : Value} (h : w.cell? p = some v) : p.block < w.heap.size := by
  by_cases hb : p.block < w.heap.size
  · exact hb
  · simp [World.cell?, Array.getElem?_eq_none (show w.heap.size ≤ p.block by omega)] at h
theorem keep2 {wa wb W : World} {N : Nat} {p0 p1 : Addr} {v0 v1 : Value} (h : (wa.cell? p0 = some v0 ∧ wa.cell? p1 = some v1) ∧ Below N W wa) (hb : Below wa.heap.size wa wb) (hN : N ≤ W.heap.size) : (wb.cell? p0 = some v0 ∧ wb.cell? p1 = some v1) ∧ Below N W wb := by
  obtain ⟨⟨h0, h1⟩, hz⟩ := h
  exact ⟨⟨(hb.cell (blk_ltA h0)).trans h0, (hb.cell (blk_ltA h1)).trans h1⟩, hz.trans (hb.mono (Nat.le_trans hN hz.size))⟩
theorem keep3 {wa wb W : World} {N : Nat} {p0 p1 p2 : Addr} {v0 v1 v2 : Value} (h : (wa.cell? p0 = some v0 ∧ wa.cell? p1 = some v1 ∧ wa.cell? p2 = some v2) ∧ Below N W wa) (hb : Below wa.heap.size wa wb) (hN : N ≤ W.heap.size) : (wb.cell? p0 = some v0 ∧ wb.cell? p1 = some v1 ∧ wb.cell? p2 = some v2) ∧ Below N W wb := by
  obtain ⟨⟨h0, h1, h2⟩, hz⟩ := h
  exact ⟨⟨(hb.cell (blk_ltA h0)).trans h0, (hb.cell (blk_ltA h1)).trans h1, (hb.cell (blk_ltA h2)).trans h2⟩, hz.trans (hb.mono (Nat.le_trans hN hz.size))⟩
theorem keep4 {wa wb W : World} {N : Nat} {p0 p1 p2 p3 : Addr} {v0 v1 v2 v3 : Value} (h : (wa.cell? p0 = some v0 ∧ wa.cell? p1 = some v1 ∧ wa.cell? p2 = some v2 ∧ wa.cell? p3 = some v3) ∧ Below N W wa) (hb : Below wa.heap.size wa wb) (hN : N ≤ W.heap.size) : (wb.cell? p0 = some v0 ∧ wb.cell? p1 = some v1 ∧ wb.cell? p2 = some v2 ∧ wb.cell? p3 = some v3) ∧ Below N W wb := by
  obtain ⟨⟨h0, h1, h2, h3⟩, hz⟩ := h
  exact ⟨⟨(hb.cell (blk_ltA h0)).trans h0, (hb.cell (blk_ltA h1)).trans h1, (hb.cell (blk_ltA h2)).trans h2, (hb.cell (blk_ltA h3)).trans h3⟩, hz.trans (hb.mono (Nat.le_trans hN hz.size))⟩
theorem keep5 {wa wb W : World} {N : Nat} {p0 p1 p2 p3 p4 : Addr} {v0 v1 v2 v3 v4 : Value} (h : (wa.cell? p0 = some v0 ∧ wa.cell? p1 = some v1 ∧ wa.cell? p2 = some v2 ∧ wa.cell? p3 = some v3 ∧ wa.cell? p4 = some v4) ∧ Below N W wa) (hb : Below wa.heap.size wa wb) (hN : N ≤ W.heap.size) : (wb.cell? p0 = some v0 ∧ wb.cell? p1 = some v1 ∧ wb.cell? p2 = some v2 ∧ wb.cell? p3 = some v3 ∧ wb.cell? p4 = some v4) ∧ Below N W wb := by
  obtain ⟨⟨h0, h1, h2, h3, h4⟩, hz⟩ := h
  exact ⟨⟨(hb.cell (blk_ltA h0)).trans h0, (hb.cell (blk_ltA h1)).trans h1, (hb.cell (blk_ltA h2)).trans h2, (hb.cell (blk_ltA h3)).trans h3, (hb.cell (blk_ltA h4)).trans h4⟩, hz.trans (hb.mono (Nat.le_trans hN hz.size))⟩
theorem keep6 {wa wb W : World} {N : Nat} {p0 p1 p2 p3 p4 p5 : Addr} {v0 v1 v2 v3 v4 v5 : Value} (h : (wa.cell? p0 = some v0 ∧ wa.cell? p1 = some v1 ∧ wa.cell? p2 = some v2 ∧ wa.cell? p3 = some v3 ∧ wa.cell? p4 = some v4 ∧ wa.cell? p5 = some v5) ∧ Below N W wa) (hb : Below wa.heap.size wa wb) (hN : N ≤ W.heap.size) : (wb.cell? p0 = some v0 ∧ wb.cell? p1 = some v1 ∧ wb.cell? p2 = some v2 ∧ wb.cell? p3 = some v3 ∧ wb.cell? p4 = some v4 ∧ wb.cell? p5 = some v5) ∧ Below N W wb := by
  obtain ⟨⟨h0, h1, h2, h3, h4, h5⟩, hz⟩ := h
  exact ⟨⟨(hb.cell (blk_ltA h0)).trans h0, (hb.cell (blk_ltA h1)).trans h1, (hb.cell (blk_ltA h2)).trans h2, (hb.cell (blk_ltA h3)).trans h3, (hb.cell (blk_ltA h4)).trans h4, (hb.cell (blk_ltA h5)).trans h5⟩, hz.trans (hb.mono (Nat.le_trans hN hz.size))⟩
theorem keep8 {wa wb W : World} {N : Nat} {p0 p1 p2 p3 p4 p5 p6 p7 : Addr} {v0 v1 v2 v3 v4 v5 v6 v7 : Value} (h : (wa.cell? p0 = some v0 ∧ wa.cell? p1 = some v1 ∧ wa.cell? p2 = some v2 ∧ wa.cell? p3 = some v3 ∧ wa.cell? p4 = some v4 ∧ wa.cell? p5 = some v5 ∧ wa.cell? p6 = some v6 ∧ wa.cell? p7 = some v7) ∧ Below N W wa) (hb : Below wa.heap.size wa wb) (hN : N ≤ W.heap.size) : (wb.cell? p0 = some v0 ∧ wb.cell? p1 = some v1 ∧ wb.cell? p2 = some v2 ∧ wb.cell? p3 = some v3 ∧ wb.cell? p4 = some v4 ∧ wb.cell? p5 = some v5 ∧ wb.cell? p6 = some v6 ∧ wb.cell? p7 = some v7) ∧ Below N W wb := by
  obtain ⟨⟨h0, h1, h2, h3, h4, h5, h6, h7⟩, hz⟩ := h
  exact ⟨⟨(hb.cell (blk_ltA h0)).trans h0, (hb.cell (blk_ltA h1)).trans h1, (hb.cell (blk_ltA h2)).trans h2, (hb.cell (blk_ltA h3)).trans h3, (hb.cell (blk_ltA h4)).trans h4, (hb.cell (blk_ltA h5)).trans h5, (hb.cell (blk_ltA h6)).trans h6, (hb.cell (blk_ltA h7)).trans h7⟩, hz.trans (hb.mono (Nat.le_trans hN hz.size))⟩
end Go.Proofs.YtapffbbmofhpobaDoor.L6

namespace Go.Proofs.YtapffbbmofhpobaDoor.L6
open Go.RowKit L1
set_option linter.unusedVariables false

theorem OwC.setC {w : World} {base n : Nat} {v : Value} {M : List PV} (h : OwC w base v n M) (p : Addr) (u : Value) (hp : p.block < base) : OwC (w.setCell p u) base v n M :=
  ⟨h.len, own_setC h.row p u hp, fun i hi => own_setC (h.idx i hi) p u hp, h.apart⟩
theorem blkp {w : World} {g : Nat} {a b : Value} {t : TypeId} (h : w.heap[g]? = some (.cells #[a, b] t (0, 0))) :
    w.cell? ⟨g, 0, none⟩ = some a ∧ w.cell? ⟨g, 1, none⟩ = some b ∧ w.frozen? ⟨g, 0, none⟩ = false ∧ w.frozen? ⟨g, 1, none⟩ = false := by
  simp [World.cell?, World.frozen?, h]

set_option maxRecDepth 100000 in
set_option maxHeartbeats 1000000 in
theorem eqPiece_same (f : Int) (s : ByteArray) (a b : Option Addr) (xs : List Int) (n c1 c2 : Nat) (w : World) (hn : xs.length = n) (ha : Sl w a xs) (hb : Sl w b xs) (hn2 : n ≤ 1048576) :
    Calls Tryd.prog 18 #[.agg #[.int .i64 f, .string s, .slice a n c1], .agg #[.int .i64 f, .string s, .slice b n c2]] w fun e w' => e = .returned (.bool true) ∧ Below w.heap.size w w' := by
  have C := hide (fun w ha hb => eqIntS_same a b xs n c1 c2 w hn ha hb hn2)
  have HA := hide ha
  have HB := hide hb
  clear ha hb hn
  go_enter Tryd.func18, Tryd.ntmps18
  go_wp2_with fail
  refine (C.out _ (HA.out.below (((Below.refl _ _).alloc (Nat.le_refl _) _).alloc (by simp) _)) (HB.out.below (((Below.refl _ _).alloc (Nat.le_refl _) _).alloc (by simp) _))).mono ?_
  rintro e w1 ⟨rfl, hb⟩
  have B1 := hide ((((Below.refl w.heap.size w).alloc (Nat.le_refl _) (.cells #[.int .i64 f, .string s, .slice a n c1] 37 (0, 0))).alloc (by simp) (.cells #[.int .i64 f, .string s, .slice b n c2] 37 (0, 0))).trans (hb.mono (by simp; omega)))
  clear hb
  go_wp2
  go_ret
  exact ⟨rfl, B1.out⟩

set_option maxRecDepth 100000 in
set_option maxHeartbeats 2000000 in
theorem eqPieceS_same (a b : Option Addr) (L : List Pc) (n c1 c2 : Nat) (w : World) (hn : L.length = n) (ha : SlC w a L) (hb : SlC w b L) (hn2 : n ≤ 1048576) (hsz : ∀ i, i < n → (gc L i).x.length ≤ 1048576) :
    Calls Tryd.prog 35 #[.slice a n c1, .slice b n c2] w fun e w' => e = .returned (.bool true) ∧ Below w.heap.size w w' := by
  have HA := hide ha
  have HB := hide hb
  have HN := hide hn
  have HSZ := hide hsz
  clear ha hb hn hsz
  go_enter Tryd.func35, Tryd.ntmps35
  go_wp2
  go_loopw [5] (fun i wr => ∃ k : Nat, k ≤ n ∧ i = .int .i64 k ∧ Below w.heap.size w wr) (fun i _ => n - (intOf i).toNat)
  case atStart => exact ⟨0, Nat.zero_le _, rfl, Below.refl _ _⟩
  case round =>
    obtain ⟨k, hk, rfl, hbel⟩ := hrel
    by_cases hlt : k < n
    · obtain ⟨b1, o1, rfl, x1, q1, h1⟩ := HA.out.below hbel k (by rw [HN.out]; exact hlt)
      obtain ⟨b2, o2, rfl, x2, q2, h2⟩ := HB.out.below hbel k (by rw [HN.out]; exact hlt)
      have hxl := HSZ.out k hlt
      have g0 := h1.f
      have g1 := h1.s
      have g2 := h1.x
      have g3 := h2.f
      have g4 := h2.s
      have g5 := h2.x
      have t1 := h1.l
      have t2 := h2.l
      obtain ⟨p, hp⟩ : ∃ p, p = gc L k := ⟨_, rfl⟩
      rw [show L.getD k eC = p from hp.symm] at g0 g1 g2 g3 g4 g5 t1 t2
      rw [← hp] at hxl
      obtain ⟨f, s, x⟩ := p
      simp only at g0 g1 g2 g3 g4 g5 t1 t2 hxl
      obtain ⟨m, hm⟩ : ∃ m, m = x.length := ⟨_, rfl⟩
      rw [← hm] at g2 g5 hxl
      have hltI : (k : Int) < (n : Int) := by omega
      have hk0 : (0 : Int) ≤ (k : Int) := by omega
      have C := hide (fun wx (hb : Below wr.heap.size wr wx) => eqPiece_same f s x1 x2 x m q1 q2 wx hm.symm (t1.below hb) (t2.below hb) hxl)
      clear h1 h2 hp hm t1 t2
      go_wp2
      go_region_held3 (fun wx => (wx.cell? ⟨b1, o1 + k * 3, none⟩ = some (.int .i64 f) ∧ wx.cell? ⟨b1, o1 + k * 3 + 1, none⟩ = some (.string s) ∧ wx.cell? ⟨b1, o1 + k * 3 + 2, none⟩ = some (.slice x1 m q1) ∧ wx.cell? ⟨b2, o2 + k * 3, none⟩ = some (.int .i64 f) ∧ wx.cell? ⟨b2, o2 + k * 3 + 1, none⟩ = some (.string s) ∧ wx.cell? ⟨b2, o2 + k * 3 + 2, none⟩ = some (.slice x2 m q2)) ∧ Below wr.heap.size wr wx) (first | exact ⟨⟨g0, g1, g2, g3, g4, g5⟩, (Below.refl _ _).drew⟩ | exact keep6 (by assumption) (by assumption) (Nat.le_refl _)) ((go_at_call 18; refine (C.out _ (by first | exact And.right (by assumption) | exact (Below.refl _ _).drew | exact Below.refl _ _)).mono ?_; rintro e w1 ⟨rfl, hb⟩))
      rename_i hHeld
      have B1 := hide (hbel.trans (hHeld.2.mono hbel.size))
      clear hHeld
      go_wp2
      go_roundw
      case rel => exact ⟨k + 1, by omega, by go_num, B1.out⟩
      case measure => simp [intOf]; omega
    · have hltI : ¬ (k : Int) < (n : Int) := by omega
      go_wp2
      go_ret
      exact ⟨rfl, hbel⟩

set_option maxRecDepth 100000 in
set_option maxHeartbeats 1000000 in
theorem eqLog_same (a b : Option Addr) (L : List Pc) (n c1 c2 : Nat) (B : Int) (w : World) (hn : L.length = n) (ha : SlC w a L) (hb : SlC w b L) (hn2 : n ≤ 1048576) (hsz : ∀ i, i < n → (gc L i).x.length ≤ 1048576) :
    Calls Tryd.prog 11 #[.agg #[.slice a n c1, .int .i64 B], .agg #[.slice b n c2, .int .i64 B]] w fun e w' => e = .returned (.bool true) ∧ Below w.heap.size w w' := by
  have C := hide (fun w ha hb => eqPieceS_same a b L n c1 c2 w hn ha hb hn2 hsz)
  have HA := hide ha
  have HB := hide hb
  clear ha hb hn hsz
  go_enter Tryd.func11, Tryd.ntmps11
  go_wp2_with fail
  refine (C.out _ (HA.out.below (((Below.refl _ _).alloc (Nat.le_refl _) _).alloc (by simp) _)) (HB.out.below (((Below.refl _ _).alloc (Nat.le_refl _) _).alloc (by simp) _))).mono ?_
  rintro e w1 ⟨rfl, hb⟩
  have B1 := hide ((((Below.refl w.heap.size w).alloc (Nat.le_refl _) (.cells #[.slice a n c1, .int .i64 B] 28 (0, 0))).alloc (by simp) (.cells #[.slice b n c2, .int .i64 B] 28 (0, 0))).trans (hb.mono (by simp; omega)))
  have G0 := (hb.block w.heap.size (by simp; omega)).trans ((((Below.refl (w.alloc (.cells #[.slice a n c1, .int .i64 B] 28 (0, 0))).heap.size _).alloc (Nat.le_refl _) _).block w.heap.size (by simp)).trans (blk_new _ _))
  have G1 : w1.heap[w.heap.size + 1]? = some (.cells #[.slice b n c2, .int .i64 B] 28 (0, 0)) := (hb.block (w.heap.size + 1) (by simp)).trans (by have := blk_new (w.alloc (.cells #[.slice a n c1, .int .i64 B] 28 (0, 0))) (.cells #[.slice b n c2, .int .i64 B] 28 (0, 0)); rw [World.size_alloc] at this; exact this)
  obtain ⟨c0, c1, _, _⟩ := blkp G0
  obtain ⟨d0, d1, _, _⟩ := blkp G1
  clear hb G0 G1
  go_wp2
  go_ret
  exact ⟨rfl, B1.out⟩
end Go.Proofs.YtapffbbmofhpobaDoor.L6

namespace Go.Proofs.YtapffbbmofhpobaDoor.L6
open Go.RowKit L1
set_option linter.unusedVariables false

set_option maxRecDepth 100000 in
set_option maxHeartbeats 1000000 in
theorem toLog_any (a : Option Addr) (L : List Pc) (n cap : Nat) (B : Int) (w : World) (hn : L.length = n) (hs : SlC w a L) (hn2 : n ≤ 1048576) (hsz : ∀ i, i < n → (gc L i).x.length ≤ 1048576) :
    Calls Tryd.prog 9 #[.agg #[.slice a n cap, .int .i64 B]] w fun e w' => ∃ g, e = .returned (.agg #[.slice (some ⟨g, 0, none⟩) n n, .int .i64 B]) ∧ (∃ M, pcs M = L ∧ OwC w' w.heap.size (.slice (some ⟨g, 0, none⟩) n n) n M) ∧ Below w.heap.size w w' := by
  have C := hide (fun w hs => toPieceS_any a L n cap w hn hs hn2 hsz)
  have HS := hide hs
  clear hs hn hsz
  go_enter Tryd.func9, Tryd.ntmps9
  go_wp2_with fail
  refine (C.out _ (HS.out.below ((((Below.refl _ _).alloc (Nat.le_refl _) _).alloc (by simp) _).alloc (by simp; omega) _))).mono ?_
  rintro e w1 ⟨rfl, ⟨M, hM, ho⟩, hb⟩
  obtain ⟨b3, b2, b1, bz⟩ := blk_three w (.cells #[.slice a n cap, .int .i64 B] 24 (0, 0)) (.cells #[.slice none 0 0, .int .i64 0] 28 (0, 0)) (.cells #[.slice none 0 0, .int .i64 0] 28 (0, 0))
  have G3 := (hb.block (w.heap.size + 2) (by simp)).trans b3
  have G2 := (hb.block (w.heap.size + 1) (by simp)).trans b2
  have G1 := (hb.block w.heap.size (by simp; omega)).trans b1
  obtain ⟨c0, c1, c3, c4⟩ := blkp G3
  obtain ⟨d0, d1, d3, d4⟩ := blkp G2
  obtain ⟨f0, f1, _, _⟩ := blkp G1
  have ho' : OwC w1 (w.heap.size + 3) (.slice (some ⟨w.heap.size + 1 + 1 + 1, 0, none⟩) n n) n M := by
    simp only [World.size_alloc] at ho
    exact ho.base (by omega)
  have H1 := hide ho'
  have HM := hide hM
  have BB0 := hide (hb.mono (show w.heap.size ≤ _ by simp; omega))
  have BB := hide ((((Below.refl w.heap.size w).alloc (Nat.le_refl _) (.cells #[.slice a n cap, .int .i64 B] 24 (0, 0))).alloc (by simp) (.cells #[.slice none 0 0, .int .i64 0] 28 (0, 0))).alloc (by simp; omega) (.cells #[.slice none 0 0, .int .i64 0] 28 (0, 0)))
  clear ho hb G3 G2 G1 b1 b2 b3 bz ho' hM
  go_wp2
  refine bodyPost_ret (v := .agg #[.slice (some ⟨w.heap.size + 1 + 1 + 1, 0, none⟩) n n, .int .i64 B]) (by simp [results, Tryd.f9, go_sem, d0, d1]) rfl ⟨_, rfl, ⟨M, HM.out, ?_⟩, ?_⟩
  · have z1 : w.heap.size + 1 + 1 < w.heap.size + 3 := by omega
    have z2 : w.heap.size + 1 < w.heap.size + 3 := by omega
    exact OwC.base (b1 := w.heap.size + 3) ((((H1.out.setC ⟨_, _, none⟩ _ z1).setC ⟨_, _, none⟩ _ z1).setC ⟨_, _, none⟩ _ z2).setC ⟨_, _, none⟩ _ z2) (by omega)
  · exact ((((BB.out.trans BB0.out).setCell (p := ⟨_, _, none⟩) (by show w.heap.size ≤ w.heap.size + 1 + 1; omega) _).setCell (p := ⟨_, _, none⟩) (by show w.heap.size ≤ w.heap.size + 1 + 1; omega) _).setCell (p := ⟨_, _, none⟩) (by show w.heap.size ≤ w.heap.size + 1; omega) _).setCell (p := ⟨_, _, none⟩) (by show w.heap.size ≤ w.heap.size + 1; omega) _

end Go.Proofs.YtapffbbmofhpobaDoor.L6

namespace Go.Proofs.YtapffbbmofhpobaDoor.L6
open Go.RowKit L1
set_option linter.unusedVariables false

theorem run_copy_k (P : Program) (w : World) (dT sT ty elem : TypeId) (g o dLen dCap k : Nat) (a : Addr) (sLen sCap m : Nat) (cur : Array Value) (t : TypeId) (cs : List Value)
    (hu : P.underlying dT = some (.slice elem)) (hs : (P.info? elem).map (·.size) = some k)
    (hg : w.heap[g]? = some (.cells cur t (0, 0))) (hm : m = Nat.min sLen dLen) (hn : cs.length = m * k)
    (hsrc : ∀ j v, cs[j]? = some v → w.cell? (a.add j) = some v) (hfit : o + cs.length ≤ cur.size) (h1 : ∀ v ∈ cs, v.oneCell' = true) :
    (Builtin.copy_ #[dT, sT] ty #[.slice (some ⟨g, o, none⟩) dLen dCap, .slice (some a) sLen sCap]).run P w =
      .ok (goInt m) (w.setRow g (cur.toList.take o ++ cs ++ cur.toList.drop (o + cs.length)).toArray) := by
  have hl := run_loadCells_list (P := P) w a cs hsrc
  have hst := run_storeCells_at P g o t cs 0 cur w hg (by simpa using hfit) h1
  rw [hn] at hl
  cases hq : P.info? elem with
  | none => simp [hq] at hs
  | some i =>
    have hi : i.size = k := by simpa [hq] using hs
    simp [Builtin.copy_, run_underlying hu, Builtin.lenOf, Builtin.firstCells, sizeOf, typeInfo, hq, hi, ← hm, hl, hst]
/-- The same, the whole row written over: what is owned behind it. -/
theorem run_copy_all (P : Program) (w : World) (dT sT ty elem : TypeId) (k : Nat) (hu : P.underlying dT = some (.slice elem)) (hsz : (P.info? elem).map (·.size) = some k)
    (base g n : Nat) (ad : Addr) (sCap : Nat) (xs : List Value) (hown : w.ownsRow base elem k (.slice (some ⟨g, 0, none⟩) n n) n xs) (cs : List Value) (hn : cs.length = n * k)
    (hsrc : ∀ j v, cs[j]? = some v → w.cell? (ad.add j) = some v) (h1 : ∀ v ∈ cs, v.oneCell' = true) :
    ∃ w', (Builtin.copy_ #[dT, sT] ty #[.slice (some ⟨g, 0, none⟩) n n, .slice (some ad) n sCap]).run P w = .ok (goInt n) w' ∧ w'.ownsRow base elem k (.slice (some ⟨g, 0, none⟩) n n) n cs ∧ w.grownBy w' (some g) := by
  obtain ⟨hl, h2⟩ := hown
  rcases h2 with ⟨hv, _⟩ | ⟨g', cap', cur, hv, hbg, hg, hc1, hc2, hc3, hc4⟩
  · cases hv
  · simp at hv
    obtain ⟨rfl, rfl⟩ := hv
    have hcs : cur.size = cs.length := by rw [hc3, hn]
    have hdrop : cur.toList.drop (0 + cs.length) = [] := List.drop_eq_nil_of_le (by simp; omega)
    refine ⟨_, run_copy_k P w dT sT ty elem g 0 n n k ad n sCap n cur elem cs hu hsz hg (by simp) hn hsrc (by omega) h1, ⟨hn, .inr ⟨g, n, _, rfl, hbg, setRow_heap w g cur _ elem _ hg, Nat.le_refl _, hc2, ?_, ?_⟩⟩, ⟨rfl, rfl, rfl, by simp [World.setRow], fun q hq hne => setRow_other w g q _ (fun e => hne (by rw [e]))⟩⟩
    · rw [hdrop]
      simp
      exact hn
    · rw [hdrop]
      simp
      first
        | exact Nat.le_of_eq hn
        | exact List.take_of_length_le (Nat.le_of_eq hn)
theorem app_none (t ty : TypeId) (ht : Tryd.prog.underlying t = some (.slice 3)) (base ax : Option Addr) (n cap c : Nat) (h : n ≤ cap) (w : World) :
    (Builtin.append_ #[t, t] ty #[.slice base n cap, .slice ax 0 c]).run Tryd.prog w = .ok (.slice base n cap) w := by
  obtain ⟨i1, hi1, _, _, _⟩ := info_parts info_int
  refine run_append_nothing w t t ty 3 i1 ht hi1 base n cap h _ ?_
  cases ax with
  | none => exact Src.ofNil _ ht c
  | some x => exact Src.ofSlice _ ht x 0 c [] (by simp) (fun j u hu => by simp at hu) (fun u hu => by simp at hu)
theorem sl_cells6 {w : World} {b off : Nat} {xs : List Int} (h : Sl w (some ⟨b, off, none⟩) xs) : ∀ j u, (xs.map (Value.int .i64))[j]? = some u → w.cell? ((⟨b, off, none⟩ : Addr).add j) = some u := fun j u hu => by
  have hj : j < xs.length := by
    by_cases hj : j < xs.length
    · exact hj
    · rw [List.getElem?_eq_none (by simp; omega)] at hu; cases hu
  rw [add_at6, h.at j hj]
  rw [List.getElem?_map, List.getElem?_eq_getElem hj] at hu
  simp at hu
  rw [← hu]
  simp [List.getD, List.getElem?_eq_getElem hj]
/-- 'append' of a list behind an empty one that is the call's own: a copy in new memory. -/
theorem wpList_append_copy {ops : Array Oper} {rest : List Oper} {o : Oper} {a : Act} {Q : Exit → Act → World → Prop} {w : World} (hgd : o.guard = none) (s x : Operand)
    (ho : o.op = .call { callee := .builtin .append, args := #[s, x], argTypes := #[35, 35] })
    (base : Nat) (ad ax : Option Addr) (cd n c : Nat) (xs : List Int) (hxs : xs.length = n) (hn2 : n ≤ 1048576) (hs : a.eval s = .slice ad 0 cd) (hown : w.ownsRow base 3 1 (.slice ad 0 cd) 0 []) (hx : a.eval x = .slice ax n c) (hsl : Sl w ax xs) (hbase : base ≤ w.heap.size)
    (h : ∀ a' c' w', w'.ownsRow base 3 1 (.slice a' n c') n (xs.map (Value.int .i64)) → w.grownBy w' (Value.slice ad 0 cd).ownBlock → ((Value.slice a' n c').ownBlock = (Value.slice ad 0 cd).ownBlock ∨ (Value.slice a' n c').ownBlock = some w.heap.size) → wpList Tryd.prog ops Q rest (a.put o.dst (.slice a' n c')) w') : wpList Tryd.prog ops Q (o :: rest) a w := by
  by_cases h0 : n = 0
  · subst h0
    have hx0 : xs = [] := List.eq_nil_of_length_eq_zero hxs
    subst hx0
    refine wpList_plain hgd fun K hK => ?_
    unfold Oper.wp execOp
    simp only [ho, resolve, invoke, builtin, Sem.run_bind, Sem.run_pure, Result.andThen_ok, List.map_toArray, List.map_cons, List.map_nil, hs, hx, app_none 35 o.type Tryd.underlying35 ad ax 0 cd c (Nat.zero_le _) w]
    exact hK _ _ (h ad cd w hown (World.grownBy.refl _ _) (.inl rfl))
  · obtain ⟨i0, hi, hz0, hz1, hz2⟩ := info_parts info_int
    obtain ⟨b, off, rfl, _⟩ := hsl 0 (by omega)
    refine wpList_append_own_at w hgd s x 35 ho base 3 i0 (.int .i64 0) 1 8 Tryd.underlying35 hi hz0 hz1 hz2 rfl (by decide) (.slice ad 0 cd) 0 [] hs hown ⟨b, off, none⟩ n c (xs.map (Value.int .i64)) hx (by simp; omega) (sl_cells6 hsl) (by intro u hu; obtain ⟨y, _, rfl⟩ := List.mem_map.1 hu; rfl) (by unfold maxLen; omega) (by omega) hbase ?_
    intro v' w' h1 h2 _ h4
    rw [Nat.zero_add, List.nil_append] at h1
    obtain ⟨a', c', rfl, _, _⟩ := own_form h1
    exact h a' c' w' h1 h2 h4
end Go.Proofs.YtapffbbmofhpobaDoor.L6

namespace Go.Proofs.YtapffbbmofhpobaDoor.L6
open Go.RowKit L1
set_option linter.unusedVariables false

theorem grown_below {w w' : World} {r : Option Nat} (hb : Below w.heap.size w w') : w.grownBy w' r := ⟨hb.os, hb.tape, hb.output, hb.size, fun k hk _ => hb.block k hk⟩
theorem grown_cell {w w' : World} {r : Option Nat} (hg : w.grownBy w' r) (p : Addr) {v : Value} (h : w.cell? p = some v) (hne : some p.block ≠ r) : w'.cell? p = some v := by
  have hb : p.block < w.heap.size := by
    by_cases hb : p.block < w.heap.size
    · exact hb
    · simp [World.cell?, Array.getElem?_eq_none (show w.heap.size ≤ p.block by omega)] at h
  have := hg.block p.block hb hne
  rw [← h]
  simp only [World.cell?, this]
theorem sl_grown {w w' : World} {r : Option Nat} {a : Option Addr} {xs : List Int} (h : Sl w a xs) (hg : w.grownBy w' r) (hne : ∀ x, a = some x → some x.block ≠ r) : Sl w' a xs := fun i hi => by
  obtain ⟨b, off, ha, hc⟩ := h i hi
  exact ⟨b, off, ha, grown_cell hg ⟨b, off + i, none⟩ hc (hne ⟨b, off, none⟩ ha)⟩

end Go.Proofs.YtapffbbmofhpobaDoor.L6

namespace Go.Proofs.YtapffbbmofhpobaDoor.L1
open Go.RowKit
set_option linter.unusedVariables false

set_option maxRecDepth 100000 in
set_option maxHeartbeats 1000000 in
theorem markIntS_all (base : Nat) (v : Value) (xs : List Int) (n : Nat) (w : World) (hn2 : n ≤ 1048576) (ho : w.ownsRow base 3 1 v n (xs.map (Value.int .i64))) :
    Calls Tryd.prog 43 #[v, .int .i64 1] w fun e w' => e = .returned (.int .i64 (1 + (n : Int))) ∧ w'.ownsRow base 3 1 v n ((marks 1 n).map (Value.int .i64)) ∧ Below base w w' ∧ w.grownBy w' v.ownBlock := by
  have hl0 := ho.1
  simp at hl0
  by_cases hn0 : n = 0
  · subst hn0
    obtain ⟨a, cap, rfl, _, hl⟩ := own_form ho
    have hx : xs = [] := List.eq_nil_of_length_eq_zero hl
    subst hx
    have HO := hide ho
    clear ho hl hl0
    go_enter Tryd.func43, Tryd.ntmps43
    go_wp2
    go_loop [1, 5] (fun k i => k = .int .i64 1 ∧ i = .int .i64 0) (fun _ _ => 0)
    case atStart => exact ⟨rfl, rfl⟩
    case round =>
      obtain ⟨rfl, rfl⟩ := hrel
      go_wp2
      go_ret
      exact ⟨rfl, HO.out, Below.refl _ _, World.grownBy.refl _ _⟩
  · obtain ⟨g, cap, rfl⟩ : ∃ g cap, v = .slice (some ⟨g, 0, none⟩) n cap := by
      rcases ho.2 with ⟨_, h0⟩ | ⟨g, cap, cur, hv, _⟩
      · omega
      · exact ⟨g, cap, hv⟩
    have hge := own_ge ho
    have HO := hide ho
    have HL := hide hl0
    clear ho hl0 hn0
    go_enter Tryd.func43, Tryd.ntmps43
    go_wp2
    go_loopw [1, 5] (fun k i wr => ∃ (j : Nat) (ys : List Int), j ≤ n ∧ i = .int .i64 j ∧ k = .int .i64 (1 + (j : Int)) ∧ ys.length = n ∧ Hid (∀ t, t < j → ys.getD t 0 = (marks 1 n).getD t 0) ∧
        wr.ownsRow base 3 1 (.slice (some ⟨g, 0, none⟩) n cap) n (ys.map (Value.int .i64)) ∧ Below base w wr ∧ w.grownBy wr (some g)) (fun _ i _ => n - (intOf i).toNat)
    case atStart => exact ⟨0, xs, by omega, rfl, rfl, HL.out, fun t ht => absurd ht (Nat.not_lt_zero _), HO.out, Below.refl _ _, World.grownBy.refl _ _⟩
    case round =>
      obtain ⟨j, ys, hj, rfl, rfl, hyl, HY, hown, hbel, hgr⟩ := hrel
      by_cases hlt : j < n
      · have hltI : (j : Int) < (n : Int) := by omega
        have hcl := hown.cellAt j (by omega)
        have hfr := hown.frozenAt j
        obtain ⟨u, hu⟩ : ∃ u, wr.cell? ⟨g, j, none⟩ = some u := ⟨_, hcl.trans (List.getElem?_eq_getElem (by simp; omega))⟩
        have hst := hown.stored j (.int .i64 (1 + (j : Int)))
        have R : ∃ (j' : Nat) (ys' : List Int), j' ≤ n ∧ Value.int .i64 ((j : Int) + 1) = .int .i64 j' ∧ Value.int .i64 (1 + (j : Int) + 1) = .int .i64 (1 + (j' : Int)) ∧ ys'.length = n ∧ Hid (∀ t, t < j' → ys'.getD t 0 = (marks 1 n).getD t 0) ∧
            (wr.setCell ⟨g, j, none⟩ (.int .i64 (1 + (j : Int)))).ownsRow base 3 1 (.slice (some ⟨g, 0, none⟩) n cap) n (ys'.map (Value.int .i64)) ∧ Below base w (wr.setCell ⟨g, j, none⟩ (.int .i64 (1 + (j : Int)))) ∧ w.grownBy (wr.setCell ⟨g, j, none⟩ (.int .i64 (1 + (j : Int)))) (some g) := by
          refine ⟨j + 1, ys.set j (1 + (j : Int)), by omega, by simp, by simp; omega, by simpa using hyl, ?_, by rw [List.map_set]; exact hst.1, hbel.setCell (p := ⟨g, j, none⟩) hge _, hgr.trans hst.2⟩
          intro t ht
          by_cases e : t = j
          · subst e
            rw [marks_get 1 n t (by omega)]
            simp [List.getD, hyl, hlt]
          · rw [← HY.out t (by omega)]
            simp [List.getD, Ne.symm e]
        have HR := hide R
        clear hcl hst R hyl
        go_wp2
        go_roundw
        case rel => exact HR.out
        case measure => simp [intOf]; omega
      · obtain rfl : j = n := by omega
        have e : ys = marks 1 j := list_same (marks_len 1 j) hyl (fun t ht => HY.out t ht)
        subst e
        have hltI : ¬ (j : Int) < (j : Int) := by omega
        clear hyl
        go_wp2
        go_ret
        exact ⟨rfl, hown, hbel, hgr⟩

theorem markIntS_any (base : Nat) (v : Value) (xs : List Int) (n : Nat) (w : World) (hn2 : n ≤ 1048576) (ho : w.ownsRow base 3 1 v n (xs.map (Value.int .i64))) :
    Calls Tryd.prog 43 #[v, .int .i64 1] w fun e w' => e = .returned (.int .i64 (1 + (n : Int))) ∧ w'.ownsRow base 3 1 v n ((marks 1 n).map (Value.int .i64)) ∧ Below base w w' :=
  (markIntS_all base v xs n w hn2 ho).mono fun e w' h => ⟨h.1, h.2.1, h.2.2.1⟩

set_option maxRecDepth 100000 in
set_option maxHeartbeats 1000000 in
theorem heldIntS_any (a : Option Addr) (n cap : Nat) (w : World) (hn2 : n ≤ 1048576) (hs : Sl w a (marks 1 n)) :
    Calls Tryd.prog 44 #[.slice a n cap, .int .i64 1] w fun e w' => e = .returned (.int .i64 (1 + (n : Int))) ∧ Below w.heap.size w w' := by
  have HS := hide hs
  clear hs
  go_enter Tryd.func44, Tryd.ntmps44
  go_wp2
  go_loop [1, 5] (fun k i => ∃ j : Nat, j ≤ n ∧ i = .int .i64 j ∧ k = .int .i64 (1 + (j : Int))) (fun _ i => n - (intOf i).toNat)
  case atStart => exact ⟨0, by omega, rfl, rfl⟩
  case round =>
    obtain ⟨j, hj, rfl, rfl⟩ := hrel
    by_cases hlt : j < n
    · obtain ⟨b, off, rfl, hc⟩ := HS.out j (by rw [marks_len]; exact hlt)
      rw [marks_get 1 n j hlt] at hc
      have hltI : (j : Int) < (n : Int) := by omega
      go_wp2
      go_round
      case rel => exact ⟨j + 1, by omega, by go_num, by go_num⟩
      case measure => simp [intOf]; omega
    · have hltI : ¬ (j : Int) < (n : Int) := by omega
      obtain rfl : j = n := by omega
      go_wp2
      go_ret
      exact ⟨rfl, Below.refl _ _⟩
end Go.Proofs.YtapffbbmofhpobaDoor.L1
