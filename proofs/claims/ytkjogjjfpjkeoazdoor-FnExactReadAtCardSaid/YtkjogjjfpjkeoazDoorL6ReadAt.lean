/-
  Contract: impl.ReadAt.
-/
import Derived.Test.YtkjogjjfpjkeoazDoorL6GoodLog
import Derived.Test.YtkjogjjfpjkeoazDoorL6PlaceOf
import Derived.Deep.RegionWith
import Derived.Deep.DeepCutAuto
namespace Go.Proofs.YtkjogjjfpjkeoazDoor.L6
open Go.RowKit L1
set_option linter.unusedVariables false

open Classical in
set_option maxRecDepth 100000 in
set_option maxHeartbeats 4000000 in
theorem implReadAt_any (a : Option Addr) (L : List Pc) (n cap : Nat) (B o : Int) (w : World) (hn : L.length = n) (hm : n ≤ 9223372036854775807) (hs : SlC w a L) (hst : TxC L) (ht : Tab w) (r : ByteArray) (ok : Bool) (hr : readRes L B o = if ok then some r else none) (hr0 : ok = false → r = ByteArray.empty) :
    Calls Tryd.prog 18 #[.agg #[.slice a n cap, .int .i64 B], .int .i64 o] w fun e w' => e = .returned (.tuple #[.string r, .bool ok]) ∧ Below w.heap.size w w' := by
  obtain ⟨bk, hbk⟩ : ∃ bk : Bool, bk = true ↔ GoodG L B := ⟨decide (GoodG L B), by simp⟩
  have C1 := hide (fun wx (hb : Below w.heap.size w wx) => goodLog_any a L n cap B wx hn hm (hs.below hb) hst (ht.below hb) bk hbk)
  have hno : ¬ (GoodG L B ∧ B ≤ o ∧ o < endg L) → ok = false ∧ r = ByteArray.empty := fun h => by
    unfold readRes at hr
    rw [if_neg h] at hr
    cases ok with
    | false => exact ⟨rfl, hr0 rfl⟩
    | true => simp at hr
  cases bk with
  | false =>
    obtain ⟨rfl, rfl⟩ := hno (fun h => absurd (hbk.2 h.1) (by simp))
    clear hr hs hn hst ht hbk hr0 hno
    go_enter Tryd.func18, Tryd.ntmps18
    go_wp2_with fail
    refine (C1.out _ ((Below.refl _ _).alloc (Nat.le_refl _) _)).mono ?_
    rintro e w1 ⟨rfl, hb1⟩
    have B1 := hide (((Below.refl w.heap.size w).alloc (Nat.le_refl _) (.cells #[.slice a n cap, .int .i64 B] 29 (0, 0))).trans (hb1.mono (by simp)))
    obtain ⟨k0, k1⟩ := blk2 ((hb1.block w.heap.size (by simp)).trans (blk_new _ _))
    clear hb1
    go_wp2
    go_ret2
    exact ⟨rfl, B1.out⟩
  | true =>
    have hg := hbk.1 rfl
    have hla := hg.logAt hn hs ht
    have hle := hg.last hn
    have hbd := hg.end0
    obtain ⟨bi, hbi⟩ : ∃ bi : Bool, bi = true ↔ B ≤ o ∧ o ≤ lastEnd L n := ⟨decide (B ≤ o ∧ o ≤ lastEnd L n), by simp⟩
    have C2 := hide (fun wx (hb : Below w.heap.size w wx) => isWithin_any a L n cap B o wx (hla.below hb) bi hbi)
    have C3 := hide (fun wx (hb : Below w.heap.size w wx) => endOf_any a L n cap B wx (hla.below hb))
    cases bi with
    | false =>
      obtain ⟨rfl, rfl⟩ := hno (fun h => absurd (hbi.2 ⟨h.2.1, by have := h.2.2; omega⟩) (by simp))
      clear hr hs hn hst ht hbk hr0 hno hbi hg hla hle hbd C3
      go_enter Tryd.func18, Tryd.ntmps18
      go_wp2_with fail
      refine (C1.out _ ((Below.refl _ _).alloc (Nat.le_refl _) _)).mono ?_
      rintro e w1 ⟨rfl, hb1⟩
      have B1 := hide (((Below.refl w.heap.size w).alloc (Nat.le_refl _) (.cells #[.slice a n cap, .int .i64 B] 29 (0, 0))).trans (hb1.mono (by simp)))
      obtain ⟨k0, k1⟩ := blk2 ((hb1.block w.heap.size (by simp)).trans (blk_new _ _))
      clear hb1
      go_wp2_with fail
      refine (C2.out _ B1.out).mono ?_
      rintro e w2 ⟨rfl, hb2⟩
      have B2 := hide (B1.out.trans (hb2.mono B1.out.size))
      have k0' := (hb2.cell (p := ⟨w.heap.size, 0, none⟩) (blk_lt k0)).trans k0
      have k1' := (hb2.cell (p := ⟨w.heap.size, 1, none⟩) (blk_lt k1)).trans k1
      clear hb2 k0 k1
      go_wp2
      go_ret2
      exact ⟨rfl, B2.out⟩
    | true =>
      have hwi := hbi.1 rfl
      by_cases hend : o = lastEnd L n
      · obtain ⟨rfl, rfl⟩ := hno (fun h => by have := h.2.2; omega)
        rw [← hend] at C3
        clear hr hs hn hst ht hbk hr0 hno hbi hg hla hle hbd hwi hend
        go_enter Tryd.func18, Tryd.ntmps18
        go_wp2_with fail
        refine (C1.out _ ((Below.refl _ _).alloc (Nat.le_refl _) _)).mono ?_
        rintro e w1 ⟨rfl, hb1⟩
        have B1 := hide (((Below.refl w.heap.size w).alloc (Nat.le_refl _) (.cells #[.slice a n cap, .int .i64 B] 29 (0, 0))).trans (hb1.mono (by simp)))
        obtain ⟨k0, k1⟩ := blk2 ((hb1.block w.heap.size (by simp)).trans (blk_new _ _))
        clear hb1
        go_wp2_with fail
        refine (C2.out _ B1.out).mono ?_
        rintro e w2 ⟨rfl, hb2⟩
        have B2 := hide (B1.out.trans (hb2.mono B1.out.size))
        have k0' := (hb2.cell (p := ⟨w.heap.size, 0, none⟩) (blk_lt k0)).trans k0
        have k1' := (hb2.cell (p := ⟨w.heap.size, 1, none⟩) (blk_lt k1)).trans k1
        clear hb2 k0 k1
        go_wp2_with fail
        refine (C3.out _ B2.out).mono ?_
        rintro e w3 ⟨rfl, hb3⟩
        have B3 := hide (B2.out.trans (hb3.mono B2.out.size))
        have l0 := (hb3.cell (p := ⟨w.heap.size, 0, none⟩) (blk_lt k0')).trans k0'
        have l1 := (hb3.cell (p := ⟨w.heap.size, 1, none⟩) (blk_lt k1')).trans k1'
        clear hb3 k0' k1'
        go_wp2
        go_ret2
        exact ⟨rfl, B3.out⟩
      · have hyes : GoodG L B ∧ B ≤ o ∧ o < endg L := ⟨hg, hwi.1, by omega⟩
        have hrr : ok = true ∧ r = rdAt L o := by
          unfold readRes at hr
          rw [if_pos hyes] at hr
          cases ok with
          | false => simp at hr
          | true => simp at hr; exact ⟨rfl, hr.symm⟩
        obtain ⟨rfl, rfl⟩ := hrr
        obtain ⟨p1, p2, p3, p4⟩ := hg.spot hyes.2.1 hyes.2.2
        have hgp := (hg.ps _ p1).1
        have hnx : atg L (pcAt L o (L.length - 1) + 1) = atg L (pcAt L o (L.length - 1)) + (cnt (gc L (pcAt L o (L.length - 1))).s : Int) := rfl
        unfold rdAt
        obtain ⟨i, hi⟩ : ∃ i, i = pcAt L o (L.length - 1) := ⟨_, rfl⟩
        rw [← hi] at p1 p2 p3 p4 hgp hnx ⊢
        have hin : i < n := by omega
        have hn1 : 1 ≤ n := by omega
        have hn20 : n ≤ 20 := by have := hg.many; omega
        obtain ⟨b, off, rfl, ai, ci, hat⟩ := hs i (by omega)
        have q1 := hat.f
        have q2 := hat.s
        have q3 := hat.x
        have q4 := hat.l
        rw [show L.getD i eC = gc L i from rfl] at q1 q2 q3 q4
        obtain ⟨p, hp⟩ : ∃ p, p = gc L i := ⟨_, rfl⟩
        rw [← hp] at p2 hgp hnx q1 q2 q3 q4 ⊢
        obtain ⟨f, s, x⟩ := p
        simp only at p2 hnx q1 q2 q3 q4 ⊢
        obtain ⟨t, htt⟩ : ∃ t, t = (o - f).toNat := ⟨_, rfl⟩
        rw [← htt]
        have hof : o - f = (t : Int) := by omega
        have htc : t < cnt s := by omega
        have hwr : IntKind.i64.wrap (o - f) = (t : Int) := by rw [hof]; exact wrap6 (by omega) (by have := good_cnt hgp; simp only at this; omega)
        obtain ⟨m, hmm⟩ : ∃ m, m = x.length := ⟨_, rfl⟩
        rw [← hmm] at q3
        have C4 := hide (fun wx (hb : Below w.heap.size w wx) => pieceAt_any (some ⟨b, off, none⟩) L n cap B o wx hn hn1 hn20 (hs.below hb) i (by rw [← hn]; exact hi.symm))
        have C5 := hide (fun wx (hb : Below w.heap.size w wx) => placeOf_any f s ai x m ci t wx hgp hmm.symm (q4.below hb) (by omega) (ht.below hb))
        obtain ⟨c, z, hrc, _⟩ := cnt_rc s t htc
        have hs60 : s.size ≤ 60 := hgp.1
        have C6 := hide (fun wx (hb : Below w.heap.size w wx) => (recordAt_some s (pl s 0 t) c z wx hrc (by omega) (ht.below hb)).mono (R' := fun e w' => e = .returned (.tuple #[.string (rtx s (pl s 0 t)), .int .i64 ((nx s (pl s 0 t) : Nat) : Int), .bool true]) ∧ Below wx.heap.size wx w') (by
          rintro e w' ⟨rfl, rfl⟩
          exact ⟨rfl, Below.refl _ _⟩))
        obtain ⟨y, hy⟩ : ∃ y, y = rtx s (pl s 0 t) := ⟨_, rfl⟩
        rw [← hy] at C6 ⊢
        obtain ⟨x1, hx1⟩ : ∃ x1, x1 = pl s 0 t := ⟨_, rfl⟩
        rw [← hx1] at C5 C6
        obtain ⟨x2, hx2⟩ : ∃ x2, x2 = nx s x1 := ⟨_, rfl⟩
        rw [← hx2] at C6
        obtain ⟨E, hE⟩ : ∃ E, E = lastEnd L n := ⟨_, rfl⟩
        rw [← hE] at C3 hend
        have hinI : (i : Int) < (n : Int) := by omega
        have hi0 : (0 : Int) ≤ (i : Int) := by omega
        have hoE : ((o == E) = false) := by simp; exact hend
        clear hr hst hbk hr0 hno hbi hg hla hle hbd hwi hyes p1 p2 p3 p4 hgp hnx hi hat q4 hp htt htc hmm hrc hy hx1 hx2 hE hs hn ht hof
        go_enter Tryd.func18, Tryd.ntmps18
        go_wp2_with fail
        refine (C1.out _ ((Below.refl _ _).alloc (Nat.le_refl _) _)).mono ?_
        rintro e w1 ⟨rfl, hb1⟩
        have B1 := hide (((Below.refl w.heap.size w).alloc (Nat.le_refl _) (.cells #[.slice (some ⟨b, off, none⟩) n cap, .int .i64 B] 29 (0, 0))).trans (hb1.mono (by simp)))
        obtain ⟨k0, k1⟩ := blk2 ((hb1.block w.heap.size (by simp)).trans (blk_new _ _))
        clear hb1
        go_wp2_with fail
        refine (C2.out _ B1.out).mono ?_
        rintro e w2 ⟨rfl, hb2⟩
        have B2 := hide (B1.out.trans (hb2.mono B1.out.size))
        have k0' := (hb2.cell (p := ⟨w.heap.size, 0, none⟩) (blk_lt k0)).trans k0
        have k1' := (hb2.cell (p := ⟨w.heap.size, 1, none⟩) (blk_lt k1)).trans k1
        clear hb2 k0 k1
        go_wp2_with fail
        refine (C3.out _ B2.out).mono ?_
        rintro e w3 ⟨rfl, hb3⟩
        have B3 := hide (B2.out.trans (hb3.mono B2.out.size))
        have l0 := (hb3.cell (p := ⟨w.heap.size, 0, none⟩) (blk_lt k0')).trans k0'
        have l1 := (hb3.cell (p := ⟨w.heap.size, 1, none⟩) (blk_lt k1')).trans k1'
        clear hb3 k0' k1'
        have C7 := hide (fun wx (hb : Below w3.heap.size w3 wx) => (C4.out wx (B3.out.trans (hb.mono B3.out.size))).mono (R' := fun e w4 => e = .returned (.int .i64 i) ∧ Below wx.heap.size wx w4 ∧ Below w.heap.size w w4 ∧ (w4.cell? ⟨w.heap.size, 0, none⟩ = some (.slice (some ⟨b, off, none⟩) n cap) ∧ w4.cell? ⟨w.heap.size, 1, none⟩ = some (.int .i64 B) ∧ w4.cell? ⟨b, off + i * 3, none⟩ = some (.int .i64 f) ∧ w4.cell? ⟨b, off + i * 3 + 1, none⟩ = some (.string s) ∧ w4.cell? ⟨b, off + i * 3 + 2, none⟩ = some (.slice ai m ci)) ∧ ∀ ob, (w4.alloc ob).cell? ⟨w.heap.size, 0, none⟩ = some (.slice (some ⟨b, off, none⟩) n cap) ∧ (w4.alloc ob).cell? ⟨b, off + i * 3, none⟩ = some (.int .i64 f) ∧ (w4.alloc ob).cell? ⟨b, off + i * 3 + 1, none⟩ = some (.string s) ∧ (w4.alloc ob).cell? ⟨b, off + i * 3 + 2, none⟩ = some (.slice ai m ci)) (by
          rintro e w4 ⟨rfl, hb4⟩
          have h3 := hb.trans (hb4.mono hb.size)
          have h4 := B3.out.trans (h3.mono B3.out.size)
          have r0 := (h3.cell (p := ⟨w.heap.size, 0, none⟩) (blk_lt l0)).trans l0
          have r1 := (h4.cell (p := ⟨b, off + i * 3, none⟩) (blk_lt q1)).trans q1
          have r2 := (h4.cell (p := ⟨b, off + i * 3 + 1, none⟩) (blk_lt q2)).trans q2
          have r3 := (h4.cell (p := ⟨b, off + i * 3 + 2, none⟩) (blk_lt q3)).trans q3
          exact ⟨rfl, hb4, h4, ⟨r0, (h3.cell (p := ⟨w.heap.size, 1, none⟩) (blk_lt l1)).trans l1, r1, r2, r3⟩, fun ob => ⟨Go.Lib.cell?_alloc_some ob r0, Go.Lib.cell?_alloc_some ob r1, Go.Lib.cell?_alloc_some ob r2, Go.Lib.cell?_alloc_some ob r3⟩⟩))
        obtain ⟨Z, hZ⟩ : ∃ Z : Obj, Z = .cells #[.int .i64 0, .string ByteArray.empty, .slice none 0 0] 51 (0, 0) := ⟨_, rfl⟩
        have C8 := hide ((C7.out ((w3.alloc (.cells #[.int .i64 0, .string ByteArray.empty, .slice none 0 0] 51 (0, 0))).drew) (((Below.refl _ _).alloc (Nat.le_refl _) _).drew)).mono (R' := fun e w4 => e = .returned (.int .i64 i) ∧ Below w.heap.size w w4 ∧ (w4.cell? ⟨w.heap.size, 0, none⟩ = some (.slice (some ⟨b, off, none⟩) n cap) ∧ w4.cell? ⟨w.heap.size, 1, none⟩ = some (.int .i64 B) ∧ w4.cell? ⟨b, off + i * 3, none⟩ = some (.int .i64 f) ∧ w4.cell? ⟨b, off + i * 3 + 1, none⟩ = some (.string s) ∧ w4.cell? ⟨b, off + i * 3 + 2, none⟩ = some (.slice ai m ci)) ∧ (w4.cell? ⟨w3.heap.size, 0, none⟩ = some (.int .i64 0) ∧ w4.cell? ⟨w3.heap.size, 1, none⟩ = some (.string ByteArray.empty) ∧ w4.cell? ⟨w3.heap.size, 2, none⟩ = some (.slice none 0 0) ∧ w4.frozen? ⟨w3.heap.size, 0, none⟩ = false ∧ w4.frozen? ⟨w3.heap.size, 1, none⟩ = false ∧ w4.frozen? ⟨w3.heap.size, 2, none⟩ = false)) (by
          rintro e w4 ⟨rfl, hb4, h4, hm, _⟩
          have G : w4.heap[w3.heap.size]? = some (.cells #[.int .i64 0, .string ByteArray.empty, .slice none 0 0] 51 (0, 0)) := (hb4.block w3.heap.size (by show w3.heap.size < (w3.heap.push _).size; simp)).trans (blk_new w3 _)
          exact ⟨rfl, h4, hm, blk3 G⟩))
        have hnew : w.heap.size ≤ w3.heap.size := B3.out.size
        have al0 : ∀ ob, (w3.alloc ob).cell? ⟨w.heap.size, 0, none⟩ = some (.slice (some ⟨b, off, none⟩) n cap) := fun ob => Go.Lib.cell?_alloc_some (W := w3) ob l0
        have al1 : ∀ ob, (w3.alloc ob).cell? ⟨w.heap.size, 1, none⟩ = some (.int .i64 B) := fun ob => Go.Lib.cell?_alloc_some (W := w3) ob l1
        clear C4 hZ Z
        go_upto_region 3 with fail
        go_cut [6] (fun t wx => ∃ g, t = .pointer (some ⟨g, 0, none⟩) ∧ wx.cell? ⟨g, 0, none⟩ = some (.int .i64 f) ∧ wx.cell? ⟨g, 1, none⟩ = some (.string s) ∧ wx.cell? ⟨g, 2, none⟩ = some (.slice ai m ci) ∧ Below w.heap.size w wx)
        case first =>
          go_region_with (first | (go_at_call 45; refine C8.out.mono ?_; rintro e w4 ⟨rfl, hb4, ⟨m0, m1, m2, m3, m4⟩, z0, z1, z2, z3, z4, z5⟩) | (go_at_call 45; refine (C7.out _ ?_).mono ?_; (first | exact Below.refl _ _ | exact (Below.refl _ _).drew); rintro e w4 ⟨rfl, _, hb4, ⟨m0, m1, m2, m3, m4⟩, ma⟩))
          all_goals (
            go_wp2_with fail
            go_meet
            case rel => first
              | exact ⟨_, rfl, (blk3 (blk_new w4 _)).1, (blk3 (blk_new w4 _)).2.1, (blk3 (blk_new w4 _)).2.2.1, hb4.alloc hb4.size _⟩
              | exact ⟨_, rfl, by simp [go_sem, z0], by simp [go_sem, z1], by simp [go_sem, z2], ((hb4.setCell (p := ⟨_, _, none⟩) hnew _).setCell (p := ⟨_, _, none⟩) hnew _).setCell (p := ⟨_, _, none⟩) hnew _⟩)
        case rest =>
          obtain ⟨g, rfl, d0, d1, d2, hbW⟩ := hcut
          have BW := hide hbW
          clear hbW C7 C8 al0 al1 l0 l1
          go_wp2
          refine wp_region_held_drew (S := fun wx => (wx.cell? ⟨g, 0, none⟩ = some (.int .i64 f) ∧ wx.cell? ⟨g, 1, none⟩ = some (.string s) ∧ wx.cell? ⟨g, 2, none⟩ = some (.slice ai m ci)) ∧ Below wc.heap.size wc wx) (by kernel_rfl) ⟨⟨d0, d1, d2⟩, (Below.refl _ _).drew⟩ (fun hHeld => ?_)
          refine wpAnyH_take (i := 0) (v := ?v1) rfl (by kernel_rfl) (by kernel_rfl) (by kernel_rfl) (fun _ _ _ h => h) (Or.inl ⟨by rfl, ?y1⟩) (by assumption) ?r1
          case y1 => (intro w hSw; (try dsimp only at hSw); go_simp; try (with_reducible rfl))
          simp only [List.getElem_toArray, List.getElem_cons_zero, Act.put, List.setIfInBounds_toArray, List.set_cons_zero, List.set_cons_succ]
          refine wpAnyH_take (i := 1) (v := ?v2) rfl (by kernel_rfl) (by kernel_rfl) (by kernel_rfl) (fun _ _ _ h => h) (Or.inl ⟨by rfl, ?y2⟩) (by assumption) ?r2
          case y2 => (intro w hSw; (try dsimp only at hSw); go_simp; try (with_reducible rfl))
          simp only [List.getElem_toArray, List.getElem_cons_succ, List.getElem_cons_zero, Act.put, List.setIfInBounds_toArray, List.set_cons_zero, List.set_cons_succ]
          refine wpAnyH_take (i := 2) (v := ?v3) rfl (by kernel_rfl) (by kernel_rfl) (by kernel_rfl) (fun _ _ _ h => h) (Or.inl ⟨by rfl, ?y3⟩) (by assumption) ?r3
          case y3 => (intro w hSw; (try dsimp only at hSw); go_simp; try (with_reducible rfl))
          simp only [List.getElem_toArray, List.getElem_cons_succ, List.getElem_cons_zero, Act.put, List.setIfInBounds_toArray, List.set_cons_zero, List.set_cons_succ]
          refine wpAnyH_take (i := 3) (v := ?v4) rfl (by kernel_rfl) (by kernel_rfl) (by kernel_rfl) (fun _ _ _ h => h) (Or.inl ⟨by rfl, ?y4⟩) (by assumption) ?r4
          case y4 => (intro w hSw; (try dsimp only at hSw); go_simp; try (with_reducible rfl))
          simp only [List.getElem_toArray, List.getElem_cons_succ, List.getElem_cons_zero, Act.put, List.setIfInBounds_toArray, List.set_cons_zero, List.set_cons_succ]
          refine wpAnyH_take (i := 4) (v := ?v5) rfl (by kernel_rfl) (by kernel_rfl) (by kernel_rfl) (fun _ _ _ h => h) (Or.inl ⟨by rfl, ?y5⟩) (by assumption) ?r5
          case y5 => (intro w hSw; (try dsimp only at hSw); go_simp; try (with_reducible rfl))
          simp only [List.getElem_toArray, List.getElem_cons_succ, List.getElem_cons_zero, Act.put, List.setIfInBounds_toArray, List.set_cons_zero, List.set_cons_succ]
          refine wpAnyH_take (i := 5) (v := ?v6) rfl (by kernel_rfl) (by kernel_rfl) (by kernel_rfl) (fun _ _ _ h => h) (Or.inl ⟨by rfl, ?y6⟩) (by assumption) ?r6
          case y6 => (intro w hSw; (try dsimp only at hSw); go_simp; try (with_reducible rfl))
          simp only [List.getElem_toArray, List.getElem_cons_succ, List.getElem_cons_zero, Act.put, List.setIfInBounds_toArray, List.set_cons_zero, List.set_cons_succ]
          refine wpAnyH_take (i := 6) (v := ?v7) rfl (by kernel_rfl) (by kernel_rfl) (by kernel_rfl) (fun _ _ _ h => h) (Or.inl ⟨by rfl, ?y7⟩) (by assumption) ?r7
          case y7 => (intro w hSw; (try dsimp only at hSw); go_simp; try (with_reducible rfl))
          simp only [List.getElem_toArray, List.getElem_cons_succ, List.getElem_cons_zero, Act.put, List.setIfInBounds_toArray, List.set_cons_zero, List.set_cons_succ]
          refine wpAnyH_ready (rs := [7]) (by kernel_rfl) (by simp) ?_
          refine AllReadyH.cons rfl (fun K hK => ?_) AllReadyH.nil
          simp only [List.getElem_toArray, List.getElem_cons_succ, List.getElem_cons_zero]
          go_simp
          go_at_call 47
          refine (C5.out _ (BW.out.trans (hHeld.2.mono BW.out.size))).mono ?_
          rintro e w5 ⟨rfl, hb5⟩
          dsimp only
          refine hK.out _ _ ?_ (fun hHeld => ?_)
          · exact keep3 hHeld hb5 (Nat.le_refl _)
          clear hK K
          try simp only [Act.put, List.setIfInBounds_toArray, List.set_cons_zero, List.set_cons_succ]
          refine wpAnyH_ready (rs := [8]) (by kernel_rfl) (by simp) ?_
          refine AllReadyH.cons rfl (fun K hK => ?_) AllReadyH.nil
          simp only [List.getElem_toArray, List.getElem_cons_succ, List.getElem_cons_zero]
          go_simp
          go_at_call 46
          refine (C6.out _ (BW.out.trans (hHeld.2.mono BW.out.size))).mono ?_
          rintro e w6 ⟨rfl, hb6⟩
          dsimp only
          refine hK.out _ _ ?_ (fun hHeld => ?_)
          · exact keep3 (by assumption) hb6 (Nat.le_refl _)
          clear hK K
          try simp only [Act.put, List.setIfInBounds_toArray, List.set_cons_zero, List.set_cons_succ]
          refine wpAnyH_take (i := 9) (v := ?v8) rfl (by kernel_rfl) (by kernel_rfl) (by kernel_rfl) (fun _ _ _ h => h) (Or.inl ⟨by rfl, ?y8⟩) (by assumption) ?r8
          case y8 => (intro w hSw; (try dsimp only at hSw); go_simp; try (with_reducible rfl))
          simp only [List.getElem_toArray, List.getElem_cons_succ, List.getElem_cons_zero, Act.put, List.setIfInBounds_toArray, List.set_cons_zero, List.set_cons_succ]
          refine wpAnyH_take (i := 10) (v := ?v9) rfl (by kernel_rfl) (by kernel_rfl) (by kernel_rfl) (fun _ _ _ h => h) (Or.inl ⟨by rfl, ?y9⟩) (by assumption) ?r9
          case y9 => (intro w hSw; (try dsimp only at hSw); go_simp; try (with_reducible rfl))
          simp only [List.getElem_toArray, List.getElem_cons_succ, List.getElem_cons_zero, Act.put, List.setIfInBounds_toArray, List.set_cons_zero, List.set_cons_succ]
          refine wpAnyH_take (i := 11) (v := ?v10) rfl (by kernel_rfl) (by kernel_rfl) (by kernel_rfl) (fun _ _ _ h => h) (Or.inl ⟨by rfl, ?y10⟩) (by assumption) ?r10
          case y10 => (intro w hSw; (try dsimp only at hSw); go_simp; try (with_reducible rfl))
          simp only [List.getElem_toArray, List.getElem_cons_succ, List.getElem_cons_zero, Act.put, List.setIfInBounds_toArray, List.set_cons_zero, List.set_cons_succ]
          refine wpAnyH_take (i := 12) (v := ?v11) rfl (by kernel_rfl) (by kernel_rfl) (by kernel_rfl) (fun _ _ _ h => h) (Or.inl ⟨by rfl, ?y11⟩) (by assumption) ?r11
          case y11 => (intro w hSw; (try dsimp only at hSw); go_simp; try (with_reducible rfl))
          simp only [List.getElem_toArray, List.getElem_cons_succ, List.getElem_cons_zero, Act.put, List.setIfInBounds_toArray, List.set_cons_zero, List.set_cons_succ]
          refine wpAnyH_take (i := 13) (v := ?v12) rfl (by kernel_rfl) (by kernel_rfl) (by kernel_rfl) (fun _ _ _ h => h) (Or.inl ⟨by rfl, ?y12⟩) (by assumption) ?r12
          case y12 => (intro w hSw; (try dsimp only at hSw); go_simp; try (with_reducible rfl))
          simp only [List.getElem_toArray, List.getElem_cons_succ, List.getElem_cons_zero, Act.put, List.setIfInBounds_toArray, List.set_cons_zero, List.set_cons_succ]
          refine wpAnyH_take (i := 14) (v := ?v13) rfl (by kernel_rfl) (by kernel_rfl) (by kernel_rfl) (fun _ _ _ h => h) (Or.inl ⟨by rfl, ?y13⟩) (by assumption) ?r13
          case y13 => (intro w hSw; (try dsimp only at hSw); go_simp; try (with_reducible rfl))
          simp only [List.getElem_toArray, List.getElem_cons_succ, List.getElem_cons_zero, Act.put, List.setIfInBounds_toArray, List.set_cons_zero, List.set_cons_succ]
          refine wpAnyH_take (i := 15) (v := ?v14) rfl (by kernel_rfl) (by kernel_rfl) (by kernel_rfl) (fun _ _ _ h => h) (Or.inl ⟨by rfl, ?y14⟩) (by assumption) ?r14
          case y14 => (intro w hSw; (try dsimp only at hSw); go_simp; try (with_reducible rfl))
          simp only [List.getElem_toArray, List.getElem_cons_succ, List.getElem_cons_zero, Act.put, List.setIfInBounds_toArray, List.set_cons_zero, List.set_cons_succ]
          refine wpAnyH_done (by kernel_rfl) ?_ _
          have B9 := hide (BW.out.trans (hHeld.2.mono BW.out.size))
          clear hHeld
          go_wp2
          go_ret2
          exact ⟨rfl, B9.out⟩
end Go.Proofs.YtkjogjjfpjkeoazDoor.L6
