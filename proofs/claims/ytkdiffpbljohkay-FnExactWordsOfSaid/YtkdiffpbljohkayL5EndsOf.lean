/-
  Contracts: impl.endTable.many, impl.endsOf, impl.fits: whether a text of letters fits a shape.
-/
import Derived.Test.YtkdiffpbljohkayL5Table
import Derived.Test.YtkdiffpbljohkayL5Shape
import Derived.Test.YtkdiffpbljohkayL5Word
import Derived.Deep.RegionHeld3
import Derived.Shelf.RegionOpen
namespace Go.Proofs.Ytkdiffpbljohkay.L5
open Go.RowKit L1 L4
set_option linter.unusedVariables false
attribute [local go_sem] mk_noText mk_emptyText mk_oneLetter mk_anyLetter mk_thenShape mk_eitherShape mk_manyShape mk_notShape as_noText_noText as_noText_emptyText as_noText_oneLetter as_noText_anyLetter as_noText_thenShape as_noText_eitherShape as_noText_manyShape as_noText_notShape as_emptyText_noText as_emptyText_emptyText as_emptyText_oneLetter as_emptyText_anyLetter as_emptyText_thenShape as_emptyText_eitherShape as_emptyText_manyShape as_emptyText_notShape as_oneLetter_noText as_oneLetter_emptyText as_oneLetter_oneLetter as_oneLetter_anyLetter as_oneLetter_thenShape as_oneLetter_eitherShape as_oneLetter_manyShape as_oneLetter_notShape as_anyLetter_noText as_anyLetter_emptyText as_anyLetter_oneLetter as_anyLetter_anyLetter as_anyLetter_thenShape as_anyLetter_eitherShape as_anyLetter_manyShape as_anyLetter_notShape as_thenShape_noText as_thenShape_emptyText as_thenShape_oneLetter as_thenShape_anyLetter as_thenShape_thenShape as_thenShape_eitherShape as_thenShape_manyShape as_thenShape_notShape as_eitherShape_noText as_eitherShape_emptyText as_eitherShape_oneLetter as_eitherShape_anyLetter as_eitherShape_thenShape as_eitherShape_eitherShape as_eitherShape_manyShape as_eitherShape_notShape as_manyShape_noText as_manyShape_emptyText as_manyShape_oneLetter as_manyShape_anyLetter as_manyShape_thenShape as_manyShape_eitherShape as_manyShape_manyShape as_manyShape_notShape as_notShape_noText as_notShape_emptyText as_notShape_oneLetter as_notShape_anyLetter as_notShape_thenShape as_notShape_eitherShape as_notShape_manyShape as_notShape_notShape
theorem mrR_lt (E M : Nat → Nat) (hM : ∀ q, M q < 8192) (i : Nat) (hi : i ≤ 12) : ∀ c, mrR E M i c < 8192
  | 0 => by
    unfold mrR
    exact Nat.pow_lt_pow_right (by omega) (show i < 13 by omega)
  | c + 1 => by unfold mrR; split; exact or_lt (mrR_lt E M hM i hi c) (hM _); exact mrR_lt E M hM i hi c
theorem mrE_lt (E : Nat → Nat) (n : Nat) (hn : n ≤ 12) : ∀ d q, mrE E n d q < 8192
  | 0, q => by simp [mrE]
  | d + 1, q => by
    show upd _ _ _ q < 8192
    unfold upd
    split
    · exact mrR_lt E _ (mrE_lt E n hn d) _ (by omega) d
    · exact mrE_lt E n hn d q
set_option maxRecDepth 100000 in
set_option maxHeartbeats 8000000 in
theorem many_any (E : Nat → Nat) (n : Nat) (hn : n ≤ 12) (hE : ∀ i, E i < 8192) (w : World) :
    Calls Try.prog 79 #[tv E, .int .i64 (n : Int)] w fun e w' => e = .returned (tv (mrE E n (n + 1))) ∧ Below w.heap.size w w' := by
  go_enter Try.func79, Try.ntmps79
  go_wp2
  obtain ⟨W, hW⟩ : ∃ W, W = ((w.alloc (.cells #[.int .u16 ((E 0 : Nat) : Int), .int .u16 ((E 1 : Nat) : Int), .int .u16 ((E 2 : Nat) : Int), .int .u16 ((E 3 : Nat) : Int), .int .u16 ((E 4 : Nat) : Int), .int .u16 ((E 5 : Nat) : Int), .int .u16 ((E 6 : Nat) : Int), .int .u16 ((E 7 : Nat) : Int), .int .u16 ((E 8 : Nat) : Int), .int .u16 ((E 9 : Nat) : Int), .int .u16 ((E 10 : Nat) : Int), .int .u16 ((E 11 : Nat) : Int), .int .u16 ((E 12 : Nat) : Int)] 112)).alloc (.cells #[.int .u16 0, .int .u16 0, .int .u16 0, .int .u16 0, .int .u16 0, .int .u16 0, .int .u16 0, .int .u16 0, .int .u16 0, .int .u16 0, .int .u16 0, .int .u16 0, .int .u16 0] 112)).alloc (.cells #[.int .u16 0, .int .u16 0, .int .u16 0, .int .u16 0, .int .u16 0, .int .u16 0, .int .u16 0, .int .u16 0, .int .u16 0, .int .u16 0, .int .u16 0, .int .u16 0, .int .u16 0] 112) := ⟨_, rfl⟩
  rw [← hW]
  have H0 : Hid (S3 w W E (fun _ => 0) (fun _ => 0)) := hide (by
    rw [hW]
    exact ⟨((rowE.new w _ _ rfl (Nat.le_refl _) E).alloc _).alloc _, (rowE.zero _ _ _ (by simp) (by omega)).alloc _, rowE.zero _ _ _ (by simp) (by omega), (((Below.refl _ _).alloc (Nat.le_refl _) _).alloc (by simp) _).alloc (by simp; omega) _⟩)
  have HE := hide hE
  clear hW hE
  go_loopw [6] (fun i wr => ∃ d : Nat, d ≤ n + 1 ∧ i = .int .i64 ((n : Int) - (d : Int)) ∧ Hid (S3 w wr E (fun _ => 0) (mrE E n d))) (fun i _ => ((intOf i) + 1).toNat)
  case atStart => exact ⟨0, by omega, by simp, H0⟩
  case round =>
    obtain ⟨d, hd, rfl, HS⟩ := hrel
    by_cases hlt : d ≤ n
    · obtain ⟨i, rfl⟩ : ∃ i, n = i + d := ⟨n - d, by omega⟩
      have hid : ((i + d : Nat) : Int) - (d : Int) = (i : Int) := by omega
      rw [hid]
      have hi0 : (0 : Int) ≤ (i : Int) := by omega
      have hi13 : (i : Int) < 13 := by omega
      have hi16 : (i : Int) ≤ 16 := by omega
      have hnd : i + d - d = i := by omega
      have hsh := shl1 i (by omega)
      rw [pow_cast] at hsh
      have cc := HS.out.c.cell i (by omega)
      have fc := HS.out.c.frozenAt i
      have HS0 : Hid (S3 w (wr.setCell ⟨w.heap.size + 2, i, none⟩ (.int .u16 (2 ^ i))) E (fun _ => 0) (upd (mrE E (i + d) d) i (mrR E (mrE E (i + d) d) i 0))) := hide (by
        have := HS.out.c.set i (2 ^ i)
        rw [pow_cast] at this
        exact ⟨HS.out.a.keep i _ (by omega), HS.out.b.keep i _ (by omega), this, HS.out.bel.setCell (p := ⟨w.heap.size + 2, i, none⟩) (by simp only; omega) _⟩)
      clear hid
      go_wp2
      go_loopw [7] (fun j wr => ∃ c : Nat, c ≤ d ∧ j = .int .i64 ((i : Int) + 1 + (c : Int)) ∧ Hid (S3 w wr E (fun _ => 0) (upd (mrE E (i + d) d) i (mrR E (mrE E (i + d) d) i c)))) (fun j _ => i + d + 1 - (intOf j).toNat)
      case atStart => exact ⟨0, by omega, by simp, HS0⟩
      case round =>
        obtain ⟨c, hc, rfl, HT⟩ := hrel
        by_cases hlm : c < d
        · have hlmI : (i : Int) + 1 + (c : Int) ≤ ((i + d : Nat) : Int) := by omega
          have hj0 : (0 : Int) ≤ (i : Int) + 1 + (c : Int) := by omega
          have hj13 : (i : Int) + 1 + (c : Int) < 13 := by omega
          have htn : ((i : Int) + 1 + (c : Int)).toNat = i + 1 + c := by omega
          have hcast : (i : Int) + 1 + (c : Int) = ((i + 1 + c : Nat) : Int) := by omega
          have ca := HT.out.a.cell i (by omega)
          have hst : mrR E (mrE E (i + d) d) i (c + 1) = if (E i).testBit (i + 1 + c) = true then mrR E (mrE E (i + d) d) i c ||| mrE E (i + d) d (i + 1 + c) else mrR E (mrE E (i + d) d) i c := rfl
          cases hb : (E i).testBit (i + 1 + c) with
          | true =>
            have C := hide (fun w => has_any (E i) (i + 1 + c) (by have := HE.out i; omega) (by omega) w true hb.symm)
            rw [hb, if_pos rfl] at hst
            have c1 := HT.out.c.cell i (by omega)
            rw [upd_self] at c1
            have c2 := HT.out.c.cell (i + 1 + c) (by omega)
            rw [upd_ne _ _ _ _ (by omega)] at c2
            have f1 := HT.out.c.frozenAt i
            have hor := bits_or (mrR E (mrE E (i + d) d) i c) (mrE E (i + d) d (i + 1 + c)) (by have := mrR_lt E _ (mrE_lt E (i + d) hn d) i (by omega) c; omega) (by have := mrE_lt E (i + d) hn d (i + 1 + c); omega)
            have HN : Hid (S3 w (wr.setCell ⟨w.heap.size + 2, i, none⟩ (.int .u16 ((mrR E (mrE E (i + d) d) i c ||| mrE E (i + d) d (i + 1 + c) : Nat) : Int))).drew E (fun _ => 0) (upd (mrE E (i + d) d) i (mrR E (mrE E (i + d) d) i (c + 1)))) := hide (by
              rw [hst]
              have := HT.out.c.set i (mrR E (mrE E (i + d) d) i c ||| mrE E (i + d) d (i + 1 + c))
              rw [upd_upd] at this
              exact ⟨(HT.out.a.keep i _ (by omega)).drew, (HT.out.b.keep i _ (by omega)).drew, this.drew, (HT.out.bel.setCell (p := ⟨w.heap.size + 2, i, none⟩) (by simp only; omega) _).drew⟩)
            obtain ⟨q, hq⟩ : ∃ q, q = mrR E (mrE E (i + d) d) i c := ⟨_, rfl⟩
            obtain ⟨q2, hq2⟩ : ∃ q, q = mrE E (i + d) d (i + 1 + c) := ⟨_, rfl⟩
            rw [← hq] at c1 hor HN
            rw [← hq2] at c2 hor HN
            rw [← hcast] at C
            clear hb hst hq hq2 hcast
            go_wp2_with fail
            refine (C.out _).mono ?_
            rintro e w1 ⟨rfl, rfl⟩
            go_wp2
            go_region
            go_wp2
            go_roundw
            case rel => exact ⟨c + 1, by omega, by go_num, HN⟩
            case measure => simp [intOf]; omega
          | false =>
            have C := hide (fun w => has_any (E i) (i + 1 + c) (by have := HE.out i; omega) (by omega) w false hb.symm)
            rw [hb, if_neg (by simp)] at hst
            have HN : Hid (S3 w wr E (fun _ => 0) (upd (mrE E (i + d) d) i (mrR E (mrE E (i + d) d) i (c + 1)))) := hide (by rw [hst]; exact HT.out)
            rw [← hcast] at C
            clear hb hst hcast
            go_wp2_with fail
            refine (C.out _).mono ?_
            rintro e w1 ⟨rfl, rfl⟩
            go_wp2
            go_roundw
            case rel => exact ⟨c + 1, by omega, by go_num, HN⟩
            case measure => simp [intOf]; omega
        · obtain rfl : c = d := by omega
          have hlmI : ¬ (i : Int) + 1 + (c : Int) ≤ ((i + c : Nat) : Int) := by omega
          have HN : Hid (S3 w wr E (fun _ => 0) (mrE E (i + c) (c + 1))) := hide (by
            show S3 w wr E (fun _ => 0) (upd (mrE E (i + c) c) (i + c - c) (mrR E (mrE E (i + c) c) (i + c - c) c))
            rw [hnd]
            exact HT.out)
          clear hnd
          go_wp2
          go_roundw
          case rel => exact ⟨c + 1, by omega, by go_num, HN⟩
          case measure => simp [intOf]; omega
    · obtain rfl : d = n + 1 := by omega
      have hid : (n : Int) - ((n + 1 : Nat) : Int) = -1 := by omega
      rw [hid]
      clear hid
      have e0 := HS.out.c.cell 0 (by omega)
      have r0 := HS.out.b.cell 0 (by omega)
      have f0 := HS.out.b.frozenAt 0
      have e1 := HS.out.c.cell 1 (by omega)
      have r1 := HS.out.b.cell 1 (by omega)
      have f1 := HS.out.b.frozenAt 1
      have e2 := HS.out.c.cell 2 (by omega)
      have r2 := HS.out.b.cell 2 (by omega)
      have f2 := HS.out.b.frozenAt 2
      have e3 := HS.out.c.cell 3 (by omega)
      have r3 := HS.out.b.cell 3 (by omega)
      have f3 := HS.out.b.frozenAt 3
      have e4 := HS.out.c.cell 4 (by omega)
      have r4 := HS.out.b.cell 4 (by omega)
      have f4 := HS.out.b.frozenAt 4
      have e5 := HS.out.c.cell 5 (by omega)
      have r5 := HS.out.b.cell 5 (by omega)
      have f5 := HS.out.b.frozenAt 5
      have e6 := HS.out.c.cell 6 (by omega)
      have r6 := HS.out.b.cell 6 (by omega)
      have f6 := HS.out.b.frozenAt 6
      have e7 := HS.out.c.cell 7 (by omega)
      have r7 := HS.out.b.cell 7 (by omega)
      have f7 := HS.out.b.frozenAt 7
      have e8 := HS.out.c.cell 8 (by omega)
      have r8 := HS.out.b.cell 8 (by omega)
      have f8 := HS.out.b.frozenAt 8
      have e9 := HS.out.c.cell 9 (by omega)
      have r9 := HS.out.b.cell 9 (by omega)
      have f9 := HS.out.b.frozenAt 9
      have e10 := HS.out.c.cell 10 (by omega)
      have r10 := HS.out.b.cell 10 (by omega)
      have f10 := HS.out.b.frozenAt 10
      have e11 := HS.out.c.cell 11 (by omega)
      have r11 := HS.out.b.cell 11 (by omega)
      have f11 := HS.out.b.frozenAt 11
      have e12 := HS.out.c.cell 12 (by omega)
      have r12 := HS.out.b.cell 12 (by omega)
      have f12 := HS.out.b.frozenAt 12
      go_wp2
      refine bodyPost_ret (v := tv (mrE E n (n + 1))) (by simp [results, Try.f79, go_sem, *]) rfl ⟨rfl, ?_⟩
      exact (((((((((((((HS.out.bel.setCell (p := ⟨w.heap.size + 1, 0, none⟩) (by simp only; omega) _).setCell (p := ⟨w.heap.size + 1, 1, none⟩) (by simp only; omega) _).setCell (p := ⟨w.heap.size + 1, 2, none⟩) (by simp only; omega) _).setCell (p := ⟨w.heap.size + 1, 3, none⟩) (by simp only; omega) _).setCell (p := ⟨w.heap.size + 1, 4, none⟩) (by simp only; omega) _).setCell (p := ⟨w.heap.size + 1, 5, none⟩) (by simp only; omega) _).setCell (p := ⟨w.heap.size + 1, 6, none⟩) (by simp only; omega) _).setCell (p := ⟨w.heap.size + 1, 7, none⟩) (by simp only; omega) _).setCell (p := ⟨w.heap.size + 1, 8, none⟩) (by simp only; omega) _).setCell (p := ⟨w.heap.size + 1, 9, none⟩) (by simp only; omega) _).setCell (p := ⟨w.heap.size + 1, 10, none⟩) (by simp only; omega) _).setCell (p := ⟨w.heap.size + 1, 11, none⟩) (by simp only; omega) _).setCell (p := ⟨w.heap.size + 1, 12, none⟩) (by simp only; omega) _)
theorem bts_lenN (s : ByteArray) : (bts s 0).length = s.size := by rw [bts_len]; omega
set_option maxRecDepth 100000 in
theorem row_below {w w' : World} {base g : Nat} {E : Nat → Nat} (h : rowE w base g E) (hb : Below w.heap.size w w') : rowE w' base g E := own_belowT h hb
theorem cell_new_at (w : World) (g : Nat) (hg : w.heap.size = g) (v : Value) (t : TypeId) : (w.alloc (.cells #[v] t)).cell? ⟨g, 0, none⟩ = some v := by
  subst hg; simp
/-- The result's table and the one that is filled. -/
structure S2 (w wr : World) (D : Nat → Nat) : Prop where
  r : rowE wr w.heap.size w.heap.size (fun _ => 0)
  o : rowE wr w.heap.size (w.heap.size + 1) D
  bel : Below w.heap.size w wr
theorem S2.step {w wr : World} {D : Nat → Nat} (h : S2 w wr D) (i v : Nat) : S2 w (wr.setCell ⟨w.heap.size + 1, i, none⟩ (.int .u16 (v : Int))) (upd D i v) :=
  ⟨h.r.keep i _ (by omega), h.o.set i v, h.bel.setCell (p := ⟨w.heap.size + 1, i, none⟩) (by simp only; omega) _⟩
theorem S2.new {w W : World} (hW : W = (w.alloc (.cells #[.int .u16 0, .int .u16 0, .int .u16 0, .int .u16 0, .int .u16 0, .int .u16 0, .int .u16 0, .int .u16 0, .int .u16 0, .int .u16 0, .int .u16 0, .int .u16 0, .int .u16 0] 112)).alloc (.cells #[.int .u16 0, .int .u16 0, .int .u16 0, .int .u16 0, .int .u16 0, .int .u16 0, .int .u16 0, .int .u16 0, .int .u16 0, .int .u16 0, .int .u16 0, .int .u16 0, .int .u16 0] 112)) : S2 w W (fun _ => 0) := by
  rw [hW]
  exact ⟨(rowE.zero w _ _ rfl (Nat.le_refl _)).alloc _, rowE.zero _ _ _ (by simp) (by omega), ((Below.refl _ _).alloc (Nat.le_refl _) _).alloc (by simp) _⟩
theorem S2.below {w wr w' : World} {D : Nat → Nat} (h : S2 w wr D) (hb : Below wr.heap.size wr w') : S2 w w' D := ⟨row_below h.r hb, row_below h.o hb, h.bel.trans (hb.mono h.bel.size)⟩
theorem below_drewE {B : Nat} {a w : World} (h : Below B a w) (n : Nat) : Below B a (w.drewN n) := h.trans ⟨rfl, rfl, rfl, Nat.le_refl _, fun _ _ => rfl⟩
/-- What the call does at a shape. -/
def EC (x : Sh) : Prop := ∀ (s : ByteArray) (w : World), s.size ≤ 12 → Calls Try.prog 68 #[sv x, .string s] w fun e w' => e = .returned (tv (ev (bts s 0) x)) ∧ Below w.heap.size w w'
set_option maxRecDepth 100000 in
set_option maxHeartbeats 1000000 in
theorem ends_none : EC .none := by
  intro s w hs
  show Calls Try.prog 68 #[.iface 105 (.agg #[]), .string s] w fun e w' => e = .returned (.agg #[.int .u16 0, .int .u16 0, .int .u16 0, .int .u16 0, .int .u16 0, .int .u16 0, .int .u16 0, .int .u16 0, .int .u16 0, .int .u16 0, .int .u16 0, .int .u16 0, .int .u16 0]) ∧ Below w.heap.size w w'
  go_enter Try.func68, Try.ntmps68
  go_wp2
  refine bodyPost_ret (v := .agg #[.int .u16 0, .int .u16 0, .int .u16 0, .int .u16 0, .int .u16 0, .int .u16 0, .int .u16 0, .int .u16 0, .int .u16 0, .int .u16 0, .int .u16 0, .int .u16 0, .int .u16 0]) (by simp [results, Try.f68, go_sem]) rfl ⟨rfl, ?_⟩
  exact ((Below.refl _ _).alloc (Nat.le_refl _) _).alloc (by simp) _
set_option maxRecDepth 100000 in
set_option maxHeartbeats 8000000 in
theorem ends_empty : EC .empty := by
  intro s w hs
  have HV : Hid (ev (bts s 0) .empty = emE (s.size + 1)) := hide (by show emE _ = _; rw [bts_lenN])
  rw [HV.out]
  show Calls Try.prog 68 #[.iface 101 (.agg #[]), .string s] w _
  go_enter Try.func68, Try.ntmps68
  go_wp2
  obtain ⟨W, hW⟩ : ∃ W, W = ((w.alloc (.cells #[.int .u16 0, .int .u16 0, .int .u16 0, .int .u16 0, .int .u16 0, .int .u16 0, .int .u16 0, .int .u16 0, .int .u16 0, .int .u16 0, .int .u16 0, .int .u16 0, .int .u16 0] 112)).alloc (.cells #[.int .u16 0, .int .u16 0, .int .u16 0, .int .u16 0, .int .u16 0, .int .u16 0, .int .u16 0, .int .u16 0, .int .u16 0, .int .u16 0, .int .u16 0, .int .u16 0, .int .u16 0] 112)).alloc (.cells #[] 101) := ⟨_, rfl⟩
  rw [← hW]
  have H0 : Hid (S2 w W (fun _ => 0)) := hide ((S2.new rfl).below (by rw [hW]; exact (Below.refl _ _).alloc (Nat.le_refl _) _))
  clear hW HV
  go_loopw [23] (fun i wr => ∃ k : Nat, k ≤ s.size + 1 ∧ i = .int .i64 k ∧ Hid (S2 w wr (emE k))) (fun i _ => s.size + 1 - (intOf i).toNat)
  case atStart => exact ⟨0, by omega, rfl, H0⟩
  case round =>
    obtain ⟨k, hk, rfl, HS⟩ := hrel
    by_cases hlt : k < s.size + 1
    · have hltI : (k : Int) < (s.size : Int) + 1 := by omega
      have hk13 : (k : Int) < 13 := by omega
      have hk16 : (k : Int) ≤ 16 := by omega
      have hsh := shl1 k (by omega)
      rw [pow_cast] at hsh
      have cc := HS.out.o.cell k (by omega)
      have fc := HS.out.o.frozenAt k
      have HN := hide (HS.out.step k (2 ^ k))
      rw [pow_cast] at HN
      go_wp2
      go_roundw
      case rel => exact ⟨k + 1, by omega, by go_num, HN⟩
      case measure => simp [intOf]; omega
    · obtain rfl : k = s.size + 1 := by omega
      have hltI : ¬ ((s.size + 1 : Nat) : Int) < (s.size : Int) + 1 := by omega
      have e0 := HS.out.o.cell 0 (by omega)
      have r0 := HS.out.r.cell 0 (by omega)
      have f0 := HS.out.r.frozenAt 0
      have e1 := HS.out.o.cell 1 (by omega)
      have r1 := HS.out.r.cell 1 (by omega)
      have f1 := HS.out.r.frozenAt 1
      have e2 := HS.out.o.cell 2 (by omega)
      have r2 := HS.out.r.cell 2 (by omega)
      have f2 := HS.out.r.frozenAt 2
      have e3 := HS.out.o.cell 3 (by omega)
      have r3 := HS.out.r.cell 3 (by omega)
      have f3 := HS.out.r.frozenAt 3
      have e4 := HS.out.o.cell 4 (by omega)
      have r4 := HS.out.r.cell 4 (by omega)
      have f4 := HS.out.r.frozenAt 4
      have e5 := HS.out.o.cell 5 (by omega)
      have r5 := HS.out.r.cell 5 (by omega)
      have f5 := HS.out.r.frozenAt 5
      have e6 := HS.out.o.cell 6 (by omega)
      have r6 := HS.out.r.cell 6 (by omega)
      have f6 := HS.out.r.frozenAt 6
      have e7 := HS.out.o.cell 7 (by omega)
      have r7 := HS.out.r.cell 7 (by omega)
      have f7 := HS.out.r.frozenAt 7
      have e8 := HS.out.o.cell 8 (by omega)
      have r8 := HS.out.r.cell 8 (by omega)
      have f8 := HS.out.r.frozenAt 8
      have e9 := HS.out.o.cell 9 (by omega)
      have r9 := HS.out.r.cell 9 (by omega)
      have f9 := HS.out.r.frozenAt 9
      have e10 := HS.out.o.cell 10 (by omega)
      have r10 := HS.out.r.cell 10 (by omega)
      have f10 := HS.out.r.frozenAt 10
      have e11 := HS.out.o.cell 11 (by omega)
      have r11 := HS.out.r.cell 11 (by omega)
      have f11 := HS.out.r.frozenAt 11
      have e12 := HS.out.o.cell 12 (by omega)
      have r12 := HS.out.r.cell 12 (by omega)
      have f12 := HS.out.r.frozenAt 12
      go_wp2
      refine bodyPost_ret (v := tv (emE (s.size + 1))) (by simp [results, Try.f68, go_sem, *]) rfl ⟨rfl, ?_⟩
      exact (((((((((((((HS.out.bel.setCell (p := ⟨w.heap.size, 0, none⟩) (by simp only; omega) _).setCell (p := ⟨w.heap.size, 1, none⟩) (by simp only; omega) _).setCell (p := ⟨w.heap.size, 2, none⟩) (by simp only; omega) _).setCell (p := ⟨w.heap.size, 3, none⟩) (by simp only; omega) _).setCell (p := ⟨w.heap.size, 4, none⟩) (by simp only; omega) _).setCell (p := ⟨w.heap.size, 5, none⟩) (by simp only; omega) _).setCell (p := ⟨w.heap.size, 6, none⟩) (by simp only; omega) _).setCell (p := ⟨w.heap.size, 7, none⟩) (by simp only; omega) _).setCell (p := ⟨w.heap.size, 8, none⟩) (by simp only; omega) _).setCell (p := ⟨w.heap.size, 9, none⟩) (by simp only; omega) _).setCell (p := ⟨w.heap.size, 10, none⟩) (by simp only; omega) _).setCell (p := ⟨w.heap.size, 11, none⟩) (by simp only; omega) _).setCell (p := ⟨w.heap.size, 12, none⟩) (by simp only; omega) _)
set_option maxRecDepth 100000 in
set_option maxHeartbeats 8000000 in
theorem ends_any : EC .any := by
  intro s w hs
  have HV : Hid (ev (bts s 0) .any = anE s.size) := hide (by show anE _ = _; rw [bts_lenN])
  rw [HV.out]
  show Calls Try.prog 68 #[.iface 102 (.agg #[]), .string s] w _
  go_enter Try.func68, Try.ntmps68
  go_wp2
  obtain ⟨W, hW⟩ : ∃ W, W = ((w.alloc (.cells #[.int .u16 0, .int .u16 0, .int .u16 0, .int .u16 0, .int .u16 0, .int .u16 0, .int .u16 0, .int .u16 0, .int .u16 0, .int .u16 0, .int .u16 0, .int .u16 0, .int .u16 0] 112)).alloc (.cells #[.int .u16 0, .int .u16 0, .int .u16 0, .int .u16 0, .int .u16 0, .int .u16 0, .int .u16 0, .int .u16 0, .int .u16 0, .int .u16 0, .int .u16 0, .int .u16 0, .int .u16 0] 112)).alloc (.cells #[] 102) := ⟨_, rfl⟩
  rw [← hW]
  have H0 : Hid (S2 w W (fun _ => 0)) := hide ((S2.new rfl).below (by rw [hW]; exact (Below.refl _ _).alloc (Nat.le_refl _) _))
  clear hW HV
  go_loopw [55] (fun i wr => ∃ k : Nat, k ≤ s.size ∧ i = .int .i64 k ∧ Hid (S2 w wr (anE k))) (fun i _ => s.size - (intOf i).toNat)
  case atStart => exact ⟨0, by omega, rfl, H0⟩
  case round =>
    obtain ⟨k, hk, rfl, HS⟩ := hrel
    by_cases hlt : k < s.size
    · have hltI : (k : Int) < (s.size : Int) := by omega
      have hk13 : (k : Int) < 13 := by omega
      have hk16 : (k : Int) ≤ 16 := by omega
      have hsh := shl2 k (by omega)
      have cc := HS.out.o.cell k (by omega)
      have fc := HS.out.o.frozenAt k
      have HN := hide (HS.out.step k (2 * 2 ^ k))
      obtain ⟨q, hq⟩ : ∃ q : Int, q = ((2 * 2 ^ k : Nat) : Int) := ⟨_, rfl⟩
      rw [← hq] at hsh HN
      clear hq
      go_wp2
      go_roundw
      case rel => exact ⟨k + 1, by omega, by go_num, HN⟩
      case measure => simp [intOf]; omega
    · obtain rfl : k = s.size := by omega
      have hltI : ¬ (s.size : Int) < (s.size : Int) := by omega
      have e0 := HS.out.o.cell 0 (by omega)
      have r0 := HS.out.r.cell 0 (by omega)
      have f0 := HS.out.r.frozenAt 0
      have e1 := HS.out.o.cell 1 (by omega)
      have r1 := HS.out.r.cell 1 (by omega)
      have f1 := HS.out.r.frozenAt 1
      have e2 := HS.out.o.cell 2 (by omega)
      have r2 := HS.out.r.cell 2 (by omega)
      have f2 := HS.out.r.frozenAt 2
      have e3 := HS.out.o.cell 3 (by omega)
      have r3 := HS.out.r.cell 3 (by omega)
      have f3 := HS.out.r.frozenAt 3
      have e4 := HS.out.o.cell 4 (by omega)
      have r4 := HS.out.r.cell 4 (by omega)
      have f4 := HS.out.r.frozenAt 4
      have e5 := HS.out.o.cell 5 (by omega)
      have r5 := HS.out.r.cell 5 (by omega)
      have f5 := HS.out.r.frozenAt 5
      have e6 := HS.out.o.cell 6 (by omega)
      have r6 := HS.out.r.cell 6 (by omega)
      have f6 := HS.out.r.frozenAt 6
      have e7 := HS.out.o.cell 7 (by omega)
      have r7 := HS.out.r.cell 7 (by omega)
      have f7 := HS.out.r.frozenAt 7
      have e8 := HS.out.o.cell 8 (by omega)
      have r8 := HS.out.r.cell 8 (by omega)
      have f8 := HS.out.r.frozenAt 8
      have e9 := HS.out.o.cell 9 (by omega)
      have r9 := HS.out.r.cell 9 (by omega)
      have f9 := HS.out.r.frozenAt 9
      have e10 := HS.out.o.cell 10 (by omega)
      have r10 := HS.out.r.cell 10 (by omega)
      have f10 := HS.out.r.frozenAt 10
      have e11 := HS.out.o.cell 11 (by omega)
      have r11 := HS.out.r.cell 11 (by omega)
      have f11 := HS.out.r.frozenAt 11
      have e12 := HS.out.o.cell 12 (by omega)
      have r12 := HS.out.r.cell 12 (by omega)
      have f12 := HS.out.r.frozenAt 12
      go_wp2
      refine bodyPost_ret (v := tv (anE s.size)) (by simp [results, Try.f68, go_sem, *]) rfl ⟨rfl, ?_⟩
      exact (((((((((((((HS.out.bel.setCell (p := ⟨w.heap.size, 0, none⟩) (by simp only; omega) _).setCell (p := ⟨w.heap.size, 1, none⟩) (by simp only; omega) _).setCell (p := ⟨w.heap.size, 2, none⟩) (by simp only; omega) _).setCell (p := ⟨w.heap.size, 3, none⟩) (by simp only; omega) _).setCell (p := ⟨w.heap.size, 4, none⟩) (by simp only; omega) _).setCell (p := ⟨w.heap.size, 5, none⟩) (by simp only; omega) _).setCell (p := ⟨w.heap.size, 6, none⟩) (by simp only; omega) _).setCell (p := ⟨w.heap.size, 7, none⟩) (by simp only; omega) _).setCell (p := ⟨w.heap.size, 8, none⟩) (by simp only; omega) _).setCell (p := ⟨w.heap.size, 9, none⟩) (by simp only; omega) _).setCell (p := ⟨w.heap.size, 10, none⟩) (by simp only; omega) _).setCell (p := ⟨w.heap.size, 11, none⟩) (by simp only; omega) _).setCell (p := ⟨w.heap.size, 12, none⟩) (by simp only; omega) _)
set_option maxRecDepth 100000 in
set_option maxHeartbeats 8000000 in
theorem ends_letter (c : Int) : EC (.letter c) := by
  intro s w hs
  have HV : Hid (ev (bts s 0) (.letter c) = leE c (bts s 0) s.size) := hide (by show leE c _ _ = _; rw [bts_lenN])
  rw [HV.out]
  show Calls Try.prog 68 #[.iface 91 (.agg #[.int .u8 c]), .string s] w _
  go_enter Try.func68, Try.ntmps68
  go_wp2
  obtain ⟨W, hW⟩ : ∃ W, W = ((w.alloc (.cells #[.int .u16 0, .int .u16 0, .int .u16 0, .int .u16 0, .int .u16 0, .int .u16 0, .int .u16 0, .int .u16 0, .int .u16 0, .int .u16 0, .int .u16 0, .int .u16 0, .int .u16 0] 112)).alloc (.cells #[.int .u16 0, .int .u16 0, .int .u16 0, .int .u16 0, .int .u16 0, .int .u16 0, .int .u16 0, .int .u16 0, .int .u16 0, .int .u16 0, .int .u16 0, .int .u16 0, .int .u16 0] 112)).alloc (.cells #[.int .u8 c] 91) := ⟨_, rfl⟩
  rw [← hW]
  have H0 : Hid (S2 w W (fun _ => 0) ∧ W.cell? ⟨w.heap.size + 2, 0, none⟩ = some (.int .u8 c)) := hide ⟨(S2.new rfl).below (by rw [hW]; exact (Below.refl _ _).alloc (Nat.le_refl _) _), by rw [hW]; exact cell_new_at _ _ (by simp) _ _⟩
  clear hW HV
  go_loopw [36] (fun i wr => ∃ k : Nat, k ≤ s.size ∧ i = .int .i64 k ∧ Hid (S2 w wr (leE c (bts s 0) k) ∧ wr.cell? ⟨w.heap.size + 2, 0, none⟩ = some (.int .u8 c))) (fun i _ => s.size - (intOf i).toNat)
  case atStart => exact ⟨0, by omega, rfl, H0⟩
  case round =>
    obtain ⟨k, hk, rfl, HSC⟩ := hrel
    have HS := hide HSC.out.1
    by_cases hlt : k < s.size
    · have hltI : (k : Int) < (s.size : Int) := by omega
      have hk0 : (0 : Int) ≤ (k : Int) := by omega
      have hk13 : (k : Int) < 13 := by omega
      have hk16 : (k : Int) ≤ 16 := by omega
      have hsh := shl2 k (by omega)
      have cl := HSC.out.2
      have cc := HS.out.o.cell k (by omega)
      have fc := HS.out.o.frozenAt k
      have hb := (bts_at s k hlt).symm
      have hst : leE c (bts s 0) (k + 1) = if (bts s 0).getD k 0 = c then upd (leE c (bts s 0) k) k (2 * 2 ^ k) else leE c (bts s 0) k := rfl
      obtain ⟨b, hbe⟩ : ∃ b, b = (bts s 0).getD k 0 := ⟨_, rfl⟩
      rw [← hbe] at hb hst
      have HN := HS.out.step k (2 * 2 ^ k)
      obtain ⟨q, hq⟩ : ∃ q : Int, q = ((2 * 2 ^ k : Nat) : Int) := ⟨_, rfl⟩
      rw [← hq] at hsh HN
      clear hbe hq
      by_cases hbc : b = c
      · rw [if_pos hbc] at hst
        have hbq : (b == c) = true := by simpa using hbc
        have HN2 : Hid (S2 w (wr.setCell ⟨w.heap.size + 1, k, none⟩ (.int .u16 q)) (leE c (bts s 0) (k + 1)) ∧ (wr.setCell ⟨w.heap.size + 1, k, none⟩ (.int .u16 q)).cell? ⟨w.heap.size + 2, 0, none⟩ = some (.int .u8 c)) := hide
          ⟨by rw [hst]; exact HN, (World.cell?_of_block (w := wr) (Below.heap_setCell wr ⟨w.heap.size + 1, k, none⟩ (.int .u16 q) (w.heap.size + 2) (by simp only; omega))).trans cl⟩
        clear hst HN hbc
        go_wp2
        go_quiet (fail)
        go_wp2
        go_roundw
        case rel =>
          refine ⟨k + 1, by omega, by go_num, hide ⟨⟨HN2.out.1.r, HN2.out.1.o, below_drewE HN2.out.1.bel _⟩, HN2.out.2⟩⟩
        case measure => simp [intOf]; omega
      · rw [if_neg hbc] at hst
        have hbq : (b == c) = false := by simpa using hbc
        have HN2 : Hid (S2 w wr (leE c (bts s 0) (k + 1)) ∧ wr.cell? ⟨w.heap.size + 2, 0, none⟩ = some (.int .u8 c)) := hide ⟨by rw [hst]; exact HS.out, cl⟩
        clear hst HN hbc
        go_wp2
        go_quiet (fail)
        go_wp2
        go_roundw
        case rel =>
          refine ⟨k + 1, by omega, by go_num, hide ⟨⟨HN2.out.1.r, HN2.out.1.o, below_drewE HN2.out.1.bel _⟩, HN2.out.2⟩⟩
        case measure => simp [intOf]; omega
    · obtain rfl : k = s.size := by omega
      have hltI : ¬ (s.size : Int) < (s.size : Int) := by omega
      have e0 := HS.out.o.cell 0 (by omega)
      have r0 := HS.out.r.cell 0 (by omega)
      have f0 := HS.out.r.frozenAt 0
      have e1 := HS.out.o.cell 1 (by omega)
      have r1 := HS.out.r.cell 1 (by omega)
      have f1 := HS.out.r.frozenAt 1
      have e2 := HS.out.o.cell 2 (by omega)
      have r2 := HS.out.r.cell 2 (by omega)
      have f2 := HS.out.r.frozenAt 2
      have e3 := HS.out.o.cell 3 (by omega)
      have r3 := HS.out.r.cell 3 (by omega)
      have f3 := HS.out.r.frozenAt 3
      have e4 := HS.out.o.cell 4 (by omega)
      have r4 := HS.out.r.cell 4 (by omega)
      have f4 := HS.out.r.frozenAt 4
      have e5 := HS.out.o.cell 5 (by omega)
      have r5 := HS.out.r.cell 5 (by omega)
      have f5 := HS.out.r.frozenAt 5
      have e6 := HS.out.o.cell 6 (by omega)
      have r6 := HS.out.r.cell 6 (by omega)
      have f6 := HS.out.r.frozenAt 6
      have e7 := HS.out.o.cell 7 (by omega)
      have r7 := HS.out.r.cell 7 (by omega)
      have f7 := HS.out.r.frozenAt 7
      have e8 := HS.out.o.cell 8 (by omega)
      have r8 := HS.out.r.cell 8 (by omega)
      have f8 := HS.out.r.frozenAt 8
      have e9 := HS.out.o.cell 9 (by omega)
      have r9 := HS.out.r.cell 9 (by omega)
      have f9 := HS.out.r.frozenAt 9
      have e10 := HS.out.o.cell 10 (by omega)
      have r10 := HS.out.r.cell 10 (by omega)
      have f10 := HS.out.r.frozenAt 10
      have e11 := HS.out.o.cell 11 (by omega)
      have r11 := HS.out.r.cell 11 (by omega)
      have f11 := HS.out.r.frozenAt 11
      have e12 := HS.out.o.cell 12 (by omega)
      have r12 := HS.out.r.cell 12 (by omega)
      have f12 := HS.out.r.frozenAt 12
      go_wp2
      refine bodyPost_ret (v := tv (leE c (bts s 0) s.size)) (by simp [results, Try.f68, go_sem, *]) rfl ⟨rfl, ?_⟩
      exact (((((((((((((HS.out.bel.setCell (p := ⟨w.heap.size, 0, none⟩) (by simp only; omega) _).setCell (p := ⟨w.heap.size, 1, none⟩) (by simp only; omega) _).setCell (p := ⟨w.heap.size, 2, none⟩) (by simp only; omega) _).setCell (p := ⟨w.heap.size, 3, none⟩) (by simp only; omega) _).setCell (p := ⟨w.heap.size, 4, none⟩) (by simp only; omega) _).setCell (p := ⟨w.heap.size, 5, none⟩) (by simp only; omega) _).setCell (p := ⟨w.heap.size, 6, none⟩) (by simp only; omega) _).setCell (p := ⟨w.heap.size, 7, none⟩) (by simp only; omega) _).setCell (p := ⟨w.heap.size, 8, none⟩) (by simp only; omega) _).setCell (p := ⟨w.heap.size, 9, none⟩) (by simp only; omega) _).setCell (p := ⟨w.heap.size, 10, none⟩) (by simp only; omega) _).setCell (p := ⟨w.heap.size, 11, none⟩) (by simp only; omega) _).setCell (p := ⟨w.heap.size, 12, none⟩) (by simp only; omega) _)
set_option maxRecDepth 100000 in
set_option maxHeartbeats 8000000 in
theorem ends_many (a : Sh) (IA : EC a) : EC (.many a) := by
  intro s w hs
  have HV : Hid (ev (bts s 0) (.many a) = mrE (ev (bts s 0) a) s.size (s.size + 1)) := hide (by show mrE _ _ _ = _; rw [bts_lenN])
  rw [HV.out]
  have hlt := ev_lt (bts s 0) (by rw [bts_lenN]; exact hs) a
  have C1 := hide (fun w => IA s w hs)
  obtain ⟨X, hX⟩ : ∃ X, X = ev (bts s 0) a := ⟨_, rfl⟩
  simp only [← hX] at C1 hlt ⊢
  have C2 := hide (fun w => many_any X s.size hs hlt w)
  obtain ⟨Y, hY⟩ : ∃ Y, Y = mrE X s.size (s.size + 1) := ⟨_, rfl⟩
  simp only [← hY] at C2 ⊢
  have hsI : (s.size : Int) ≤ 12 := by omega
  show Calls Try.prog 68 #[.iface 98 (.agg #[sv a]), .string s] w _
  have HS0 : Hid (S2 w (((w.alloc (.cells #[.int .u16 0, .int .u16 0, .int .u16 0, .int .u16 0, .int .u16 0, .int .u16 0, .int .u16 0, .int .u16 0, .int .u16 0, .int .u16 0, .int .u16 0, .int .u16 0, .int .u16 0] 112)).alloc (.cells #[.int .u16 0, .int .u16 0, .int .u16 0, .int .u16 0, .int .u16 0, .int .u16 0, .int .u16 0, .int .u16 0, .int .u16 0, .int .u16 0, .int .u16 0, .int .u16 0, .int .u16 0] 112)).alloc (.cells #[sv a] 98)) (fun _ => 0)) := hide ((S2.new rfl).below ((Below.refl _ _).alloc (Nat.le_refl _) _))
  clear HV hX hY hlt IA
  go_enter Try.func68, Try.ntmps68
  go_wp2_with fail
  refine (C1.out _).mono ?_
  rintro e w1 ⟨rfl, hb1⟩
  have HS1 := hide (HS0.out.below hb1)
  clear hb1
  go_wp2_with fail
  refine (C2.out _).mono ?_
  rintro e w2 ⟨rfl, hb2⟩
  have HS := hide (HS1.out.below hb2)
  clear hb2
  have r0 := HS.out.r.cell 0 (by omega)
  have f0 := HS.out.r.frozenAt 0
  have r1 := HS.out.r.cell 1 (by omega)
  have f1 := HS.out.r.frozenAt 1
  have r2 := HS.out.r.cell 2 (by omega)
  have f2 := HS.out.r.frozenAt 2
  have r3 := HS.out.r.cell 3 (by omega)
  have f3 := HS.out.r.frozenAt 3
  have r4 := HS.out.r.cell 4 (by omega)
  have f4 := HS.out.r.frozenAt 4
  have r5 := HS.out.r.cell 5 (by omega)
  have f5 := HS.out.r.frozenAt 5
  have r6 := HS.out.r.cell 6 (by omega)
  have f6 := HS.out.r.frozenAt 6
  have r7 := HS.out.r.cell 7 (by omega)
  have f7 := HS.out.r.frozenAt 7
  have r8 := HS.out.r.cell 8 (by omega)
  have f8 := HS.out.r.frozenAt 8
  have r9 := HS.out.r.cell 9 (by omega)
  have f9 := HS.out.r.frozenAt 9
  have r10 := HS.out.r.cell 10 (by omega)
  have f10 := HS.out.r.frozenAt 10
  have r11 := HS.out.r.cell 11 (by omega)
  have f11 := HS.out.r.frozenAt 11
  have r12 := HS.out.r.cell 12 (by omega)
  have f12 := HS.out.r.frozenAt 12
  go_wp2
  refine bodyPost_ret (v := tv Y) (by simp [results, Try.f68, go_sem, *]) rfl ⟨rfl, ?_⟩
  exact (((((((((((((HS.out.bel.setCell (p := ⟨w.heap.size, 0, none⟩) (by simp only; omega) _).setCell (p := ⟨w.heap.size, 1, none⟩) (by simp only; omega) _).setCell (p := ⟨w.heap.size, 2, none⟩) (by simp only; omega) _).setCell (p := ⟨w.heap.size, 3, none⟩) (by simp only; omega) _).setCell (p := ⟨w.heap.size, 4, none⟩) (by simp only; omega) _).setCell (p := ⟨w.heap.size, 5, none⟩) (by simp only; omega) _).setCell (p := ⟨w.heap.size, 6, none⟩) (by simp only; omega) _).setCell (p := ⟨w.heap.size, 7, none⟩) (by simp only; omega) _).setCell (p := ⟨w.heap.size, 8, none⟩) (by simp only; omega) _).setCell (p := ⟨w.heap.size, 9, none⟩) (by simp only; omega) _).setCell (p := ⟨w.heap.size, 10, none⟩) (by simp only; omega) _).setCell (p := ⟨w.heap.size, 11, none⟩) (by simp only; omega) _).setCell (p := ⟨w.heap.size, 12, none⟩) (by simp only; omega) _)
set_option maxRecDepth 100000 in
set_option maxHeartbeats 8000000 in
theorem ends_inv (a : Sh) (IA : EC a) : EC (.inv a) := by
  intro s w hs
  have HV : Hid (ev (bts s 0) (.inv a) = ntE (ev (bts s 0) a) s.size (s.size + 1)) := hide (by show ntE _ _ _ = _; rw [bts_lenN])
  rw [HV.out]
  have hlt := ev_lt (bts s 0) (by rw [bts_lenN]; exact hs) a
  have C1 := hide (fun w => IA s w hs)
  obtain ⟨X, hX⟩ : ∃ X, X = ev (bts s 0) a := ⟨_, rfl⟩
  simp only [← hX] at C1 hlt ⊢
  have C2 := hide (fun w => not_any X s.size hs hlt w)
  obtain ⟨Y, hY⟩ : ∃ Y, Y = ntE X s.size (s.size + 1) := ⟨_, rfl⟩
  simp only [← hY] at C2 ⊢
  have hsI : (s.size : Int) ≤ 12 := by omega
  show Calls Try.prog 68 #[.iface 99 (.agg #[sv a]), .string s] w _
  have HS0 : Hid (S2 w (((w.alloc (.cells #[.int .u16 0, .int .u16 0, .int .u16 0, .int .u16 0, .int .u16 0, .int .u16 0, .int .u16 0, .int .u16 0, .int .u16 0, .int .u16 0, .int .u16 0, .int .u16 0, .int .u16 0] 112)).alloc (.cells #[.int .u16 0, .int .u16 0, .int .u16 0, .int .u16 0, .int .u16 0, .int .u16 0, .int .u16 0, .int .u16 0, .int .u16 0, .int .u16 0, .int .u16 0, .int .u16 0, .int .u16 0] 112)).alloc (.cells #[sv a] 99)) (fun _ => 0)) := hide ((S2.new rfl).below ((Below.refl _ _).alloc (Nat.le_refl _) _))
  clear HV hX hY hlt IA
  go_enter Try.func68, Try.ntmps68
  go_wp2_with fail
  refine (C1.out _).mono ?_
  rintro e w1 ⟨rfl, hb1⟩
  have HS1 := hide (HS0.out.below hb1)
  clear hb1
  go_wp2_with fail
  refine (C2.out _).mono ?_
  rintro e w2 ⟨rfl, hb2⟩
  have HS := hide (HS1.out.below hb2)
  clear hb2
  have r0 := HS.out.r.cell 0 (by omega)
  have f0 := HS.out.r.frozenAt 0
  have r1 := HS.out.r.cell 1 (by omega)
  have f1 := HS.out.r.frozenAt 1
  have r2 := HS.out.r.cell 2 (by omega)
  have f2 := HS.out.r.frozenAt 2
  have r3 := HS.out.r.cell 3 (by omega)
  have f3 := HS.out.r.frozenAt 3
  have r4 := HS.out.r.cell 4 (by omega)
  have f4 := HS.out.r.frozenAt 4
  have r5 := HS.out.r.cell 5 (by omega)
  have f5 := HS.out.r.frozenAt 5
  have r6 := HS.out.r.cell 6 (by omega)
  have f6 := HS.out.r.frozenAt 6
  have r7 := HS.out.r.cell 7 (by omega)
  have f7 := HS.out.r.frozenAt 7
  have r8 := HS.out.r.cell 8 (by omega)
  have f8 := HS.out.r.frozenAt 8
  have r9 := HS.out.r.cell 9 (by omega)
  have f9 := HS.out.r.frozenAt 9
  have r10 := HS.out.r.cell 10 (by omega)
  have f10 := HS.out.r.frozenAt 10
  have r11 := HS.out.r.cell 11 (by omega)
  have f11 := HS.out.r.frozenAt 11
  have r12 := HS.out.r.cell 12 (by omega)
  have f12 := HS.out.r.frozenAt 12
  go_wp2
  refine bodyPost_ret (v := tv Y) (by simp [results, Try.f68, go_sem, *]) rfl ⟨rfl, ?_⟩
  exact (((((((((((((HS.out.bel.setCell (p := ⟨w.heap.size, 0, none⟩) (by simp only; omega) _).setCell (p := ⟨w.heap.size, 1, none⟩) (by simp only; omega) _).setCell (p := ⟨w.heap.size, 2, none⟩) (by simp only; omega) _).setCell (p := ⟨w.heap.size, 3, none⟩) (by simp only; omega) _).setCell (p := ⟨w.heap.size, 4, none⟩) (by simp only; omega) _).setCell (p := ⟨w.heap.size, 5, none⟩) (by simp only; omega) _).setCell (p := ⟨w.heap.size, 6, none⟩) (by simp only; omega) _).setCell (p := ⟨w.heap.size, 7, none⟩) (by simp only; omega) _).setCell (p := ⟨w.heap.size, 8, none⟩) (by simp only; omega) _).setCell (p := ⟨w.heap.size, 9, none⟩) (by simp only; omega) _).setCell (p := ⟨w.heap.size, 10, none⟩) (by simp only; omega) _).setCell (p := ⟨w.heap.size, 11, none⟩) (by simp only; omega) _).setCell (p := ⟨w.heap.size, 12, none⟩) (by simp only; omega) _)
end Go.Proofs.Ytkdiffpbljohkay.L5
