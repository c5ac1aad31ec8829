/-
  Contracts of the laws' own helpers: laws.toPiece, laws.toPieceS, laws.toLog copy a log into new memory.
-/
import Derived.Test.YtdnmklcnlndmhazDoorL6Made
import Derived.Test.YtdnmklcnlndmhazDoorL1Lists
namespace Go.Proofs.YtdnmklcnlndmhazDoor.L6
open Go.RowKit L1
set_option linter.unusedVariables false

set_option maxRecDepth 100000 in
set_option maxHeartbeats 1000000 in
theorem toPiece_any (f : Int) (s : ByteArray) (a : Option Addr) (xs : List Int) (n cap : Nat) (w : World) (hn : xs.length = n) (hs : Sl w a xs) (hn2 : n ≤ 1048576) :
    Calls Tryd.prog 54 #[.agg #[.int .i64 f, .string s, .slice a n cap]] w fun e w' => ∃ g, e = .returned (.agg #[.int .i64 f, .string s, .slice (some ⟨g, 0, none⟩) n n]) ∧ w'.ownsRow w.heap.size 3 1 (.slice (some ⟨g, 0, none⟩) n n) n (xs.map (Value.int .i64)) ∧ Below w.heap.size w w' := by
  have C := hide (fun w (hs : Sl w a xs) => toIntS_any a xs n cap w hn hs hn2)
  have HS := hide hs
  clear hs hn
  go_enter Tryd.func54, Tryd.ntmps54
  go_wp2_with fail
  refine (C.out _ (HS.out.below ((((Below.refl _ _).alloc (Nat.le_refl _) _).alloc (by simp) _).alloc (by simp; omega) _))).mono ?_
  rintro e w1 ⟨rfl, ho, hb⟩
  obtain ⟨b3, b2, b1, bz⟩ := blk_three w (.cells #[.int .i64 f, .string s, .slice a n cap] 70 (0, 0)) (.cells #[.int .i64 0, .string ByteArray.empty, .slice none 0 0] 51 (0, 0)) (.cells #[.int .i64 f, .string s, .slice none 0 0] 51 (0, 0))
  have G3 := (hb.block (w.heap.size + 2) (by simp)).trans b3
  have G2 := (hb.block (w.heap.size + 1) (by simp)).trans b2
  obtain ⟨c0, c1, c2, c3, c4, c5⟩ := blk3 G3
  obtain ⟨d0, d1, d2, d3, d4, d5⟩ := blk3 G2
  have hsz : w.heap.size + 2 < w1.heap.size := (Array.getElem?_eq_some_iff.1 G3).1
  have ho' : w1.ownsRow (w.heap.size + 3) 3 1 (.slice (some ⟨w.heap.size + 1 + 1 + 1, 0, none⟩) n n) n (xs.map (Value.int .i64)) := by
    simp only [World.size_alloc] at ho
    exact own_baseC ho (by omega)
  have H1 := hide ho'
  clear ho'
  have BB0 := hide (hb.mono (show w.heap.size ≤ _ by simp; omega))
  have BB := hide ((((Below.refl w.heap.size w).alloc (Nat.le_refl _) (.cells #[.int .i64 f, .string s, .slice a n cap] 70 (0, 0))).alloc (by simp) (.cells #[.int .i64 0, .string ByteArray.empty, .slice none 0 0] 51 (0, 0))).alloc (by simp; omega) (.cells #[.int .i64 f, .string s, .slice none 0 0] 51 (0, 0)))
  clear ho hb G3 G2 b1 b2 b3 bz
  go_wp2
  refine bodyPost_ret (v := .agg #[.int .i64 f, .string s, .slice (some ⟨w.heap.size + 1 + 1 + 1, 0, none⟩) n n]) (by simp [results, Tryd.f54, go_sem, d0, d1, d2]) rfl ⟨_, rfl, ?_, ?_⟩
  · have z1 : w.heap.size + 1 + 1 < w.heap.size + 3 := by omega
    have z2 : w.heap.size + 1 < w.heap.size + 3 := by omega
    exact own_baseC (b1 := w.heap.size + 3) (own_setC (own_setC (own_setC (own_setC H1.out ⟨_, _, none⟩ _ z1) ⟨_, _, none⟩ _ z2) ⟨_, _, none⟩ _ z2) ⟨_, _, none⟩ _ z2) (by omega)
  · exact ((((BB.out.trans BB0.out).setCell (p := ⟨_, _, none⟩) (by show w.heap.size ≤ w.heap.size + 1 + 1; omega) _).setCell (p := ⟨_, _, none⟩) (by show w.heap.size ≤ w.heap.size + 1; omega) _).setCell (p := ⟨_, _, none⟩) (by show w.heap.size ≤ w.heap.size + 1; omega) _).setCell (p := ⟨_, _, none⟩) (by show w.heap.size ≤ w.heap.size + 1; omega) _

set_option maxRecDepth 100000 in
set_option maxHeartbeats 4000000 in
theorem toPieceS_any (a : Option Addr) (L : List Pc) (n cap : Nat) (w : World) (hn : L.length = n) (hs : SlC w a L) (hn2 : n ≤ 1048576) (hsz : ∀ i, i < n → (gc L i).x.length ≤ 1048576) :
    Calls Tryd.prog 29 #[.slice a n cap] w fun e w' => e = .returned (.slice (some ⟨w.heap.size, 0, none⟩) n n) ∧ (∃ M, pcs M = L ∧ OwC w' w.heap.size (.slice (some ⟨w.heap.size, 0, none⟩) n n) n M) ∧ Below w.heap.size w w' := by
  obtain ⟨i0, hi, hz0, hz1, hz2⟩ := info_parts info_piece
  obtain ⟨w1, hmk, hown1, hg1⟩ := run_make_full (P := Tryd.prog) w w.heap.size 27 51 i0 (.agg #[.int .i64 0, .string ByteArray.empty, .slice none 0 0]) 3 Tryd.underlying27 hi hz0 hz1 .i64 .i64 n (by rw [hz2]; omega) (by unfold maxLen; omega) (Nat.le_refl _)
  rw [made_cs] at hown1
  have hb1 : Below w.heap.size w w1 := (Below.refl _ _).grown hg1 (Nat.le_refl _) (fun k hk => by cases hk)
  have HO := hide (own_zero hown1)
  have HS := hide hs
  have HN := hide hn
  have HSZ := hide hsz
  clear hown1 hg1 hs hn hsz
  go_enter Tryd.func29, Tryd.ntmps29
  go_wp2
  go_loopw [4] (fun i wr => ∃ (k : Nat) (M : List PV), k ≤ n ∧ i = .int .i64 k ∧ Hid (∀ j, j < k → (M.getD j eV).1 = gc L j) ∧ OwC wr w.heap.size (.slice (some ⟨w.heap.size, 0, none⟩) n n) n M ∧ Below w.heap.size w wr) (fun i _ => n - (intOf i).toNat)
  case atStart => exact ⟨0, List.replicate n eV, Nat.zero_le _, rfl, fun j hj => absurd hj (Nat.not_lt_zero _), HO.out, hb1⟩
  case round =>
    obtain ⟨k, M, hk, rfl, HX, hown, hbel⟩ := hrel
    by_cases hlt : k < n
    · obtain ⟨b, off, rfl, ai, ci, hat⟩ := HS.out.below hbel k (by rw [HN.out]; exact hlt)
      have hxl := HSZ.out k hlt
      have hd1 := hat.f
      have hd2 := hat.s
      have hd3 := hat.x
      have hd4 := hat.l
      obtain ⟨p, hp⟩ : ∃ p, p = gc L k := ⟨_, rfl⟩
      rw [show L.getD k eC = p from hp.symm] at hd1 hd2 hd3 hd4
      rw [← hp] at hxl
      obtain ⟨f, s, x⟩ := p
      simp only at hd1 hd2 hd3 hd4 hxl
      obtain ⟨m, hm⟩ : ∃ m, m = x.length := ⟨_, rfl⟩
      rw [← hm] at hd3 hxl
      have hltI : (k : Int) < (n : Int) := by omega
      have C := hide (toPiece_any f s ai x m ci wr hm.symm hd4 hxl)
      have HP := hide hp
      have HM := hide hm
      have O := hide hown
      have B := hide hbel
      clear hat hd4 hp hm hown hbel
      go_wp2_with fail
      refine C.out.mono ?_
      rintro e w2 ⟨g, rfl, ho2, hb2⟩
      have O2 := O.out.below hb2
      have hB2 := B.out.trans (hb2.mono B.out.size)
      have hl := O2.len
      have hfl : (flatC M).length = n * 3 := by rw [flatC_len, hl]
      have hcl0 := O2.row.cellAt (k * 3) (by omega)
      have hfr0 := O2.row.frozenAt (k * 3)
      obtain ⟨v0, hv0⟩ : ∃ v, w2.cell? ⟨w.heap.size, k * 3, none⟩ = some v := ⟨_, hcl0.trans (List.getElem?_eq_getElem (by omega))⟩
      have hcl1 := O2.row.cellAt (k * 3 + 1) (by omega)
      have hfr1 := O2.row.frozenAt (k * 3 + 1)
      obtain ⟨v1, hv1⟩ : ∃ v, w2.cell? ⟨w.heap.size, k * 3 + 1, none⟩ = some v := ⟨_, hcl1.trans (List.getElem?_eq_getElem (by omega))⟩
      have hcl2 := O2.row.cellAt (k * 3 + 2) (by omega)
      have hfr2 := O2.row.frozenAt (k * 3 + 2)
      obtain ⟨v2, hv2⟩ : ∃ v, w2.cell? ⟨w.heap.size, k * 3 + 2, none⟩ = some v := ⟨_, hcl2.trans (List.getElem?_eq_getElem (by omega))⟩
      have hP := O2.put k hlt ⟨f, s, x⟩ (.slice (some ⟨g, 0, none⟩) m m) (by show w2.ownsRow _ _ _ _ x.length _; rw [← HM.out]; exact own_baseC ho2 B.out.size) (fun i hi _ b hb e => by
        have h1 := (own_ltC (O.out.idx i hi) b e).2
        have h2 := (own_ltC ho2 b hb).1
        omega)
      have R : ∃ (k' : Nat) (M' : List PV), k' ≤ n ∧ Value.int .i64 ((k : Int) + 1) = .int .i64 k' ∧ Hid (∀ j, j < k' → (M'.getD j eV).1 = gc L j) ∧ OwC (((w2.setCell ⟨w.heap.size, k * 3, none⟩ (.int .i64 f)).setCell ⟨w.heap.size, k * 3 + 1, none⟩ (.string s)).setCell ⟨w.heap.size, k * 3 + 2, none⟩ (.slice (some ⟨g, 0, none⟩) m m)) w.heap.size (.slice (some ⟨w.heap.size, 0, none⟩) n n) n M' ∧ Below w.heap.size w (((w2.setCell ⟨w.heap.size, k * 3, none⟩ (.int .i64 f)).setCell ⟨w.heap.size, k * 3 + 1, none⟩ (.string s)).setCell ⟨w.heap.size, k * 3 + 2, none⟩ (.slice (some ⟨g, 0, none⟩) m m)) := by
        refine ⟨k + 1, _, by omega, by simp, fun j hj => ?_, hP.1, hB2.grown hP.2 (hB2.size) (fun q hq => by cases hq; exact Nat.le_refl _)⟩
        by_cases e : j = k
        · subst e
          rw [getD_set_self M j _ (by omega)]
          exact HP.out
        · rw [getD_set_ne M k j _ e]
          exact HX.out j (by omega)
      have HR := hide R
      clear hcl0 hcl1 hcl2 hfl hl O2 hB2 hP R ho2 hb2
      go_wp2
      go_roundw
      case rel => exact HR.out
      case measure => simp [intOf]; omega
    · obtain rfl : k = n := by omega
      have hltI : ¬ (k : Int) < (k : Int) := by omega
      have E := list_sameC hown.len HN.out HX.out
      have O := hide hown
      have HE := hide E
      clear hown E
      go_wp2
      go_ret
      exact ⟨rfl, ⟨M, HE.out, O.out⟩, hbel⟩
end Go.Proofs.YtdnmklcnlndmhazDoor.L6
