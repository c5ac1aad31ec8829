/-
  Contracts: impl.endOf, impl.recordsIn, impl.isWithin.
  Contracts: impl.GoodLog, impl.EndOf.
  Contracts: impl.isWithin, impl.pieceAt, impl.placeOf.
  Contract: impl.placeOf.
  Contract: impl.CutFrom.
  Contract: spec.l6Own.
  A row of bytes as a text. Nothing of the program's text is proved here but closed facts on its types.
  Contract: spec.l1Varint makes the digits to 128 of a number's ZigZag, as a text; memory that was there stays as it was.
-/
import Derived.Test.YtbcljhafdpnjbabDoorBundle4
import Derived.Test.YtbcljhafdpnjbabDoorBundle2
import Derived.Deep.RegionHeld3
import Derived.Test.YtbcljhafdpnjbabDoorBundle3
import Derived.Deep.RegionWith
import Derived.Deep.DeepCutAuto
import Derived.Test.YtbcljhafdpnjbabDoorBundle1
namespace Go.Proofs.YtbcljhafdpnjbabDoor.L6
open Go.RowKit L1
set_option linter.unusedVariables false

theorem blk2 {w : World} {g : Nat} {a b : Value} {t : TypeId} (h : w.heap[g]? = some (.cells #[a, b] t (0, 0))) :
    w.cell? ⟨g, 0, none⟩ = some a ∧ w.cell? ⟨g, 1, none⟩ = some b := by
  simp [World.cell?, h]
/-- What is asked of a log's pieces where its end is looked up. -/
structure LogAt (w : World) (a : Option Addr) (L : List Pc) (n : Nat) : Prop where
  len : L.length = n
  one : 1 ≤ n
  few : n ≤ 20
  sl : SlC w a L
  f0 : 0 ≤ (gc L 0).f ∧ (gc L 0).f ≤ 100000
  fl : 0 ≤ (gc L (n - 1)).f ∧ (gc L (n - 1)).f ≤ 1000000
  sz : (gc L (n - 1)).s.size ≤ 60
  tab : Tab w
theorem LogAt.below {w w' : World} {a : Option Addr} {L : List Pc} {n : Nat} (h : LogAt w a L n) (hb : Below w.heap.size w w') : LogAt w' a L n :=
  ⟨h.len, h.one, h.few, h.sl.below hb, h.f0, h.fl, h.sz, h.tab.below hb⟩
theorem lastEnd_bd {w : World} {a : Option Addr} {L : List Pc} {n : Nat} (h : LogAt w a L n) : 0 ≤ lastEnd L n ∧ lastEnd L n ≤ 1000060 := by
  have h1 := h.fl
  have h2 := h.sz
  have h3 := cnt_le (gc L (n - 1)).s
  unfold lastEnd
  omega

set_option maxRecDepth 100000 in
set_option maxHeartbeats 1000000 in
theorem endOf_any (a : Option Addr) (L : List Pc) (n cap : Nat) (B : Int) (w : World) (h : LogAt w a L n) :
    Calls Tryd.prog 37 #[.agg #[.slice a n cap, .int .i64 B]] w fun e w' => e = .returned (.int .i64 (lastEnd L n)) ∧ Below w.heap.size w w' := by
  obtain ⟨m, hm⟩ : ∃ m, m = n - 1 := ⟨_, rfl⟩
  have h1 := h.one
  have h20 := h.few
  have hnm : (n : Int) - 1 = (m : Int) := by omega
  have hmn : (m : Int) < (n : Int) := by omega
  have hm0 : (0 : Int) ≤ (m : Int) := by omega
  obtain ⟨b, off, rfl, ai, ci, hat⟩ := h.sl m (by rw [h.len]; omega)
  have hfl := h.fl
  have hsz := h.sz
  have hT := hide h.tab
  unfold lastEnd
  rw [← hm] at hfl hsz ⊢
  have hd1 := hat.f
  have hd2 := hat.s
  have hd3 := hat.x
  obtain ⟨p, hp⟩ : ∃ p, p = gc L m := ⟨_, rfl⟩
  rw [show L.getD m eC = p from hp.symm] at hd1 hd2 hd3
  rw [← hp] at hfl hsz ⊢
  obtain ⟨f, s, x⟩ := p
  simp only at hd1 hd2 hd3 hfl hsz ⊢
  obtain ⟨k, hk⟩ : ∃ k, k = x.length := ⟨_, rfl⟩
  rw [← hk] at hd3
  have C := hide (fun w ht => endOfPiece_any f s ai k ci w (by omega) (by omega) (by omega) ht)
  have e1 := Go.Lib.cell?_alloc_some (.cells #[.slice (some ⟨b, off, none⟩) n cap, .int .i64 B] 25 (0, 0)) hd1
  have e2 := Go.Lib.cell?_alloc_some (.cells #[.slice (some ⟨b, off, none⟩) n cap, .int .i64 B] 25 (0, 0)) hd2
  have e3 := Go.Lib.cell?_alloc_some (.cells #[.slice (some ⟨b, off, none⟩) n cap, .int .i64 B] 25 (0, 0)) hd3
  clear hat hp hk h hm
  go_enter Tryd.func37, Tryd.ntmps37
  go_wp2_with fail
  refine (C.out _ (hT.out.below ((Below.refl _ _).alloc (Nat.le_refl _) _))).mono ?_
  rintro e w1 ⟨rfl, hb1⟩
  have B1 := hide (((Below.refl w.heap.size w).alloc (Nat.le_refl _) (.cells #[.slice (some ⟨b, off, none⟩) n cap, .int .i64 B] 25 (0, 0))).trans (hb1.mono (by simp)))
  clear hb1
  go_wp2
  go_ret
  exact ⟨rfl, B1.out⟩

/-- A log's own two cells and one of its first piece's stay where they are. -/
theorem keepL {wa wb : World} {g b o N : Nat} {v0 v1 v2 : Value} {W : World} (h : (wa.cell? ⟨g, 0, none⟩ = some v0 ∧ wa.cell? ⟨g, 1, none⟩ = some v1 ∧ wa.cell? ⟨b, o, none⟩ = some v2) ∧ Below N W wa) (hb : Below wa.heap.size wa wb) (hN : N ≤ W.heap.size) : (wb.cell? ⟨g, 0, none⟩ = some v0 ∧ wb.cell? ⟨g, 1, none⟩ = some v1 ∧ wb.cell? ⟨b, o, none⟩ = some v2) ∧ Below N W wb := by
  obtain ⟨⟨h1, h2, h3⟩, h4⟩ := h
  exact ⟨⟨(hb.cell (p := ⟨g, 0, none⟩) (blk_lt h1)).trans h1, (hb.cell (p := ⟨g, 1, none⟩) (blk_lt h2)).trans h2, (hb.cell (p := ⟨b, o, none⟩) (blk_lt h3)).trans h3⟩, h4.trans (hb.mono (Nat.le_trans hN h4.size))⟩

set_option maxRecDepth 100000 in
set_option maxHeartbeats 1000000 in
theorem recordsIn_any (a : Option Addr) (L : List Pc) (n cap : Nat) (B : Int) (w : World) (h : LogAt w a L n) :
    Calls Tryd.prog 33 #[.agg #[.slice a n cap, .int .i64 B]] w fun e w' => e = .returned (.int .i64 (lastEnd L n - (gc L 0).f)) ∧ Below w.heap.size w w' := by
  have h1 := h.one
  have h20 := h.few
  have hn0 : 0 < n := by omega
  have hle := lastEnd_bd h
  have hf0 := h.f0
  obtain ⟨b, off, rfl, ai, ci, hat⟩ := h.sl 0 (by rw [h.len]; omega)
  have hd1 := hat.f
  rw [Nat.zero_mul, Nat.add_zero] at hd1
  have C := hide (fun wx (hb : Below w.heap.size w wx) => endOf_any (some ⟨b, off, none⟩) L n cap B wx (h.below hb))
  obtain ⟨f, hf⟩ : ∃ f, f = (gc L 0).f := ⟨_, rfl⟩
  rw [show (L.getD 0 eC).f = f from hf.symm] at hd1
  rw [← hf] at hf0 ⊢
  obtain ⟨E, hE⟩ : ∃ E, E = lastEnd L n := ⟨_, rfl⟩
  rw [← hE] at hle C ⊢
  have hwr : IntKind.i64.wrap (E - f) = E - f := wrap6 (by omega) (by omega)
  have e1 := Go.Lib.cell?_alloc_some (.cells #[.slice (some ⟨b, off, none⟩) n cap, .int .i64 B] 25 (0, 0)) hd1
  obtain ⟨w0, hw0⟩ : ∃ w0, w0 = w.alloc (.cells #[.slice (some ⟨b, off, none⟩) n cap, .int .i64 B] 25 (0, 0)) := ⟨_, rfl⟩
  have k0 : w0.cell? ⟨w.heap.size, 0, none⟩ = some (.slice (some ⟨b, off, none⟩) n cap) ∧ w0.cell? ⟨w.heap.size, 1, none⟩ = some (.int .i64 B) := by rw [hw0]; exact blk2 (blk_new _ _)
  rw [← hw0] at e1
  have hb0 : Below w.heap.size w w0 := by rw [hw0]; exact (Below.refl w.heap.size w).alloc (Nat.le_refl _) _
  have HW := hide hw0
  have HB := hide hb0
  clear hat hf hE h hw0 hb0
  go_enter Tryd.func33, Tryd.ntmps33
  go_wp2
  rw [← HW.out]
  obtain ⟨k1, k2⟩ := k0
  go_region_held3 (fun wx => (wx.cell? ⟨w.heap.size, 0, none⟩ = some (.slice (some ⟨b, off, none⟩) n cap) ∧ wx.cell? ⟨w.heap.size, 1, none⟩ = some (.int .i64 B) ∧ wx.cell? ⟨b, off, none⟩ = some (.int .i64 f)) ∧ Below w0.heap.size w0 wx) (first | exact ⟨⟨k1, k2, e1⟩, (Below.refl _ _).drew⟩ | exact keepL (by assumption) (by assumption) (Nat.le_refl _)) ((go_at_call 37; refine (C.out _ (HB.out.trans ((by first | exact And.right (by assumption) | exact (Below.refl _ _).drew | exact Below.refl _ _ : Below w0.heap.size w0 _).mono HB.out.size))).mono ?_; rintro e w1 ⟨rfl, hb⟩))
  rename_i hHeld
  have B1 := hide (HB.out.trans (hHeld.2.mono HB.out.size))
  clear hHeld
  go_wp2
  go_ret
  exact ⟨rfl, B1.out⟩
end Go.Proofs.YtbcljhafdpnjbabDoor.L6

namespace Go.Proofs.YtbcljhafdpnjbabDoor.L6
open Go.RowKit L1
set_option linter.unusedVariables false

theorem goodG_split (L : List Pc) (B : Int) (h1 : 1 ≤ L.length) (h20 : L.length ≤ 20) (hf0 : 0 ≤ (gc L 0).f) (hf1 : (gc L 0).f ≤ 100000) (hp : GoodPs L) :
    GoodG L B ↔ (gc L 0).f ≤ B ∧ B ≤ (gc L 0).f + (cnt (gc L 0).s : Int) ∧ lastEnd L L.length - (gc L 0).f ≤ 60 := by
  have he : atg L L.length = lastEnd L L.length := end_last h1 hp
  constructor
  · intro h
    exact ⟨h.b0, h.b1, by rw [← he]; exact h.few⟩
  · rintro ⟨a, b, c⟩
    exact ⟨h1, h20, hf0, hf1, hp, a, b, by rw [he]; exact c⟩
theorem logAt_of {w : World} {a : Option Addr} {L : List Pc} {n : Nat} (hn : L.length = n) (h1 : 1 ≤ n) (h20 : n ≤ 20) (hs : SlC w a L) (hf0 : 0 ≤ (gc L 0).f) (hf1 : (gc L 0).f ≤ 100000) (hp : GoodPs L) (ht : Tab w) : LogAt w a L n := by
  subst hn
  have hk := hp (L.length - 1) (by omega)
  have hb := atg_bd L (L.length - 1) (fun j hj => (hp j (by omega)).1)
  refine ⟨rfl, h1, h20, hs, ⟨hf0, hf1⟩, ?_, hk.1.1, ht⟩
  rw [hk.2.1]
  omega
theorem GoodG.logAt {w : World} {a : Option Addr} {L : List Pc} {B : Int} {n : Nat} (h : GoodG L B) (hn : L.length = n) (hs : SlC w a L) (ht : Tab w) : LogAt w a L n :=
  logAt_of hn (by rw [← hn]; exact h.one) (by rw [← hn]; exact h.many) hs h.f0 h.f1 h.ps ht
theorem bool_no {bb : Bool} {P : Prop} (h : bb = true ↔ P) (hn : ¬ P) : bb = false := by
  cases bb with
  | false => rfl
  | true => exact absurd (h.1 rfl) hn
theorem bool_yes {bb : Bool} {P : Prop} (h : bb = true ↔ P) (hn : P) : bb = true := h.2 hn

open Classical in
set_option maxRecDepth 100000 in
set_option maxHeartbeats 4000000 in
theorem goodLog_any (a : Option Addr) (L : List Pc) (n cap : Nat) (B : Int) (w : World) (hn : L.length = n) (hm : n ≤ 9223372036854775807) (hs : SlC w a L) (hst : TxC L) (ht : Tab w) (bb : Bool) (hbb : bb = true ↔ GoodG L B) :
    Calls Tryd.prog 14 #[.agg #[.slice a n cap, .int .i64 B]] w fun e w' => e = .returned (.bool bb) ∧ Below w.heap.size w w' := by
  by_cases h1 : (n : Int) < 1
  · obtain rfl := bool_no hbb (fun h => by have := h.one; omega)
    clear hbb hn hs hst ht
    go_enter Tryd.func14, Tryd.ntmps14
    go_wp2
    go_ret
    exact ⟨rfl, (Below.refl _ _).alloc (Nat.le_refl _) _⟩
  · by_cases h20 : (20 : Int) < (n : Int)
    · obtain rfl := bool_no hbb (fun h => by have := h.many; omega)
      clear hbb hn hs hst ht
      go_enter Tryd.func14, Tryd.ntmps14
      go_wp2
      go_ret
      exact ⟨rfl, (Below.refl _ _).alloc (Nat.le_refl _) _⟩
    · have hn1 : 1 ≤ n := by omega
      have hn0 : 0 < n := by omega
      have hn20 : n ≤ 20 := by omega
      have hsx := hst 0 (by rw [hn]; omega)
      obtain ⟨b, off, rfl, ai, ci, hat⟩ := hs 0 (by rw [hn]; omega)
      have hd1 := hat.f
      have hd2 := hat.s
      have hd3 := hat.x
      rw [Nat.zero_mul, Nat.add_zero] at hd1 hd2 hd3
      have hgf : (L.getD 0 eC) = gc L 0 := rfl
      rw [hgf] at hd1 hd2 hd3 hsx
      have e1 : ∀ ob, (w.alloc ob).cell? ⟨b, off, none⟩ = some (.int .i64 (gc L 0).f) := fun ob => Go.Lib.cell?_alloc_some ob hd1
      have e2 : ∀ ob, (w.alloc ob).cell? ⟨b, off + 1, none⟩ = some (.string (gc L 0).s) := fun ob => Go.Lib.cell?_alloc_some ob hd2
      have e3 : ∀ ob, (w.alloc ob).cell? ⟨b, off + 2, none⟩ = some (.slice ai (gc L 0).x.length ci) := fun ob => Go.Lib.cell?_alloc_some ob hd3
      have HS := hide hs
      have HN := hide hn
      have HST := hide hst
      have HT := hide ht
      have HBB := hide hbb
      obtain ⟨f, hf⟩ : ∃ f, f = (gc L 0).f := ⟨_, rfl⟩
      obtain ⟨s, hss⟩ : ∃ s, s = (gc L 0).s := ⟨_, rfl⟩
      obtain ⟨m, hmm⟩ : ∃ m, m = (gc L 0).x.length := ⟨_, rfl⟩
      rw [← hf] at e1
      rw [← hss] at e2
      rw [← hmm] at e3
      have HF := hide hf
      have HSS := hide hss
      clear hs hn hst ht hbb hat hd1 hd2 hd3 hgf hsx hf hss hmm
      by_cases hf0 : f < 0
      · obtain rfl := bool_no HBB.out (fun h => by have := h.f0; rw [← HF.out] at this; omega)
        go_enter Tryd.func14, Tryd.ntmps14
        go_wp2
        go_ret
        exact ⟨rfl, ((Below.refl _ _).alloc (Nat.le_refl _) _).alloc (by simp) _⟩
      · by_cases hf1 : (100000 : Int) < f
        · obtain rfl := bool_no HBB.out (fun h => by have := h.f1; rw [← HF.out] at this; omega)
          go_enter Tryd.func14, Tryd.ntmps14
          go_wp2
          go_ret
          exact ⟨rfl, ((Below.refl _ _).alloc (Nat.le_refl _) _).alloc (by simp) _⟩
        · obtain ⟨bk, hbk⟩ : ∃ bk : Bool, bk = true ↔ GoodPs L := ⟨decide (GoodPs L), by simp⟩
          have C1 := hide (fun wx (hb : Below w.heap.size w wx) => goodPieces_any (some ⟨b, off, none⟩) L n cap wx HN.out hn1 hn20 (HS.out.below hb) HST.out (by rw [← HF.out]; omega) (by rw [← HF.out]; omega) (HT.out.below hb) bk hbk)
          cases bk with
          | false =>
            obtain rfl := bool_no HBB.out (fun h => absurd (hbk.2 h.ps) (by simp))
            clear hbk
            go_enter Tryd.func14, Tryd.ntmps14
            go_wp2_with fail
            refine (C1.out _ (((Below.refl _ _).alloc (Nat.le_refl _) _).alloc (by simp) _)).mono ?_
            rintro e w1 ⟨rfl, hb1⟩
            have B1 := hide ((((Below.refl w.heap.size w).alloc (Nat.le_refl _) (.cells #[.slice (some ⟨b, off, none⟩) n cap, .int .i64 B] 25 (0, 0))).alloc (by simp) (.cells #[.int .i64 f, .string s, .slice ai m ci] 50 (0, 0))).trans (hb1.mono (by simp; omega)))
            clear hb1
            go_wp2
            go_ret
            exact ⟨rfl, B1.out⟩
          | true =>
            have hps := hbk.1 rfl
            have hsp := goodG_split L B (by rw [HN.out]; exact hn1) (by rw [HN.out]; exact hn20) (by rw [← HF.out]; omega) (by rw [← HF.out]; omega) hps
            rw [HN.out, ← HF.out, ← HSS.out] at hsp
            have hla : LogAt w (some ⟨b, off, none⟩) L n := logAt_of HN.out hn1 hn20 HS.out (by rw [← HF.out]; omega) (by rw [← HF.out]; omega) hps HT.out
            have hs60 : s.size ≤ 60 := by rw [HSS.out]; exact (hps 0 (by rw [HN.out]; omega)).1.1
            have C2 := hide (fun wx (hb : Below w.heap.size w wx) => endOfPiece_any f s ai m ci wx (by omega) (by omega) (by omega) (HT.out.below hb))
            have C3 := hide (fun wx (hb : Below w.heap.size w wx) => recordsIn_any (some ⟨b, off, none⟩) L n cap B wx (hla.below hb))
            rw [← HF.out] at C3
            have hcl := cnt_le s
            obtain ⟨E, hE⟩ : ∃ E, E = lastEnd L n - f := ⟨_, rfl⟩
            obtain ⟨N, hN⟩ : ∃ N, N = f + (cnt s : Int) := ⟨_, rfl⟩
            rw [← hE] at hsp C3
            rw [← hN] at hsp C2
            have HSP := hide hsp
            clear hbk hps hsp hla hE hN hcl
            go_enter Tryd.func14, Tryd.ntmps14
            go_wp2_with fail
            refine (C1.out _ (((Below.refl _ _).alloc (Nat.le_refl _) _).alloc (by simp) _)).mono ?_
            rintro e w1 ⟨rfl, hb1⟩
            have B1 := hide ((((Below.refl w.heap.size w).alloc (Nat.le_refl _) (.cells #[.slice (some ⟨b, off, none⟩) n cap, .int .i64 B] 25 (0, 0))).alloc (by simp) (.cells #[.int .i64 f, .string s, .slice ai m ci] 50 (0, 0))).trans (hb1.mono (by simp; omega)))
            have G0 : w1.heap[w.heap.size]? = some (.cells #[.slice (some ⟨b, off, none⟩) n cap, .int .i64 B] 25 (0, 0)) := (hb1.block w.heap.size (by simp; omega)).trans ((((Below.refl (w.alloc (.cells #[.slice (some ⟨b, off, none⟩) n cap, .int .i64 B] 25 (0, 0))).heap.size _).alloc (Nat.le_refl _) _).block w.heap.size (by simp)).trans (blk_new _ _))
            have G1 : w1.heap[w.heap.size + 1]? = some (.cells #[.int .i64 f, .string s, .slice ai m ci] 50 (0, 0)) := (hb1.block (w.heap.size + 1) (by simp)).trans (by have := blk_new (w.alloc (.cells #[.slice (some ⟨b, off, none⟩) n cap, .int .i64 B] 25 (0, 0))) (.cells #[.int .i64 f, .string s, .slice ai m ci] 50 (0, 0)); rw [World.size_alloc] at this; exact this)
            obtain ⟨k0, k1⟩ := blk2 G0
            obtain ⟨c0, c1, c2, _, _, _⟩ := blk3 G1
            clear hb1 G0 G1
            by_cases hB0 : f ≤ B
            · by_cases hB1 : B ≤ N
              · have hE2 : bb = decide (E ≤ 60) := by
                  have h1 := HBB.out
                  rw [HSP.out] at h1
                  cases bb with
                  | true => exact (decide_eq_true (h1.1 rfl).2.2).symm
                  | false =>
                    refine (decide_eq_false (fun h => ?_)).symm
                    exact absurd (h1.2 ⟨hB0, hB1, h⟩) (by simp)
                subst hE2
                go_wp2
                go_region_held3 (fun wx => (wx.cell? ⟨w.heap.size, 0, none⟩ = some (.slice (some ⟨b, off, none⟩) n cap) ∧ wx.cell? ⟨w.heap.size, 1, none⟩ = some (.int .i64 B) ∧ wx.cell? ⟨w.heap.size + 1, 0, none⟩ = some (.int .i64 f) ∧ wx.cell? ⟨w.heap.size + 1, 1, none⟩ = some (.string s) ∧ wx.cell? ⟨w.heap.size + 1, 2, none⟩ = some (.slice ai m ci)) ∧ Below w1.heap.size w1 wx) (first | exact ⟨⟨k0, k1, c0, c1, c2⟩, (Below.refl _ _).drew⟩ | exact keep5 (by assumption) (by assumption) (Nat.le_refl _)) (first | (go_at_call 46; refine (C2.out _ (B1.out.trans ((by first | exact And.right (by assumption) | exact (Below.refl _ _).drew | exact Below.refl _ _ : Below w1.heap.size w1 _).mono B1.out.size))).mono ?_; rintro e w2 ⟨rfl, hb⟩) | (go_at_call 33; refine (C3.out _ (B1.out.trans ((by first | exact And.right (by assumption) | exact (Below.refl _ _).drew | exact Below.refl _ _ : Below w1.heap.size w1 _).mono B1.out.size))).mono ?_; rintro e w2 ⟨rfl, hb⟩))
                rename_i hHeld
                have B2 := hide (B1.out.trans (hHeld.2.mono B1.out.size))
                clear hHeld
                go_wp2
                go_ret
                exact ⟨rfl, B2.out⟩
              · obtain rfl := bool_no HBB.out (fun h => hB1 (HSP.out.1 h).2.1)
                have C4 := hide (fun wx (hb : Below w1.heap.size w1 wx) => (C2.out wx (B1.out.trans (hb.mono B1.out.size))).mono (R' := fun e w2 => e = .returned (.int .i64 N) ∧ Below w1.heap.size w1 w2 ∧ w2.cell? ⟨w.heap.size, 0, none⟩ = some (.slice (some ⟨b, off, none⟩) n cap) ∧ w2.cell? ⟨w.heap.size, 1, none⟩ = some (.int .i64 B) ∧ w2.cell? ⟨w.heap.size + 1, 0, none⟩ = some (.int .i64 f) ∧ w2.cell? ⟨w.heap.size + 1, 1, none⟩ = some (.string s) ∧ w2.cell? ⟨w.heap.size + 1, 2, none⟩ = some (.slice ai m ci)) (by
                  rintro e w2 ⟨rfl, hb2⟩
                  have h3 := hb.trans (hb2.mono hb.size)
                  obtain ⟨⟨j0, j1, j2, j3, j4⟩, _⟩ := keep5 (wa := w1) (wb := w2) (W := w1) (N := w1.heap.size) ⟨⟨k0, k1, c0, c1, c2⟩, Below.refl _ _⟩ h3 (Nat.le_refl _)
                  exact ⟨rfl, h3, j0, j1, j2, j3, j4⟩))
                go_wp2
                go_region_with (go_at_call 46; refine (C4.out _ ?_).mono ?_; (first | exact Below.refl _ _ | exact (Below.refl _ _).drew | exact ((Below.refl _ _).drew).drew); rintro e w2 ⟨rfl, hb2, d0, d1, d2, d3, d4⟩)
                all_goals (have B2 := hide (B1.out.trans (hb2.mono B1.out.size)); clear hb2; go_wp2; go_ret; exact ⟨rfl, B2.out⟩)
            · obtain rfl := bool_no HBB.out (fun h => hB0 (HSP.out.1 h).1)
              go_wp2
              have hB2 : decide (f ≤ B) = false := decide_eq_false (by omega)
              refine wp_region_held_drew (S := fun wx => (wx.cell? ⟨w.heap.size, 0, none⟩ = some (.slice (some ⟨b, off, none⟩) n cap) ∧ wx.cell? ⟨w.heap.size, 1, none⟩ = some (.int .i64 B) ∧ wx.cell? ⟨w.heap.size + 1, 0, none⟩ = some (.int .i64 f) ∧ wx.cell? ⟨w.heap.size + 1, 1, none⟩ = some (.string s) ∧ wx.cell? ⟨w.heap.size + 1, 2, none⟩ = some (.slice ai m ci)) ∧ Below w1.heap.size w1 wx) (by kernel_rfl) ⟨⟨k0, k1, c0, c1, c2⟩, (Below.refl _ _).drew⟩ (fun hHeld => ?_)
              refine wpAnyH_take (i := 0) (v := ?v1) rfl (by kernel_rfl) (by kernel_rfl) (by kernel_rfl) (fun _ _ _ h => h) (Or.inl ⟨by rfl, ?y1⟩) (by assumption) ?r1
              case y1 => (intro w hSw; (try dsimp only at hSw); go_simp; try (with_reducible rfl))
              simp only [List.getElem_toArray, List.getElem_cons_zero, Act.put, List.setIfInBounds_toArray, List.set_cons_zero, List.set_cons_succ]
              refine wpAnyH_take (i := 1) (v := ?v2) rfl (by kernel_rfl) (by kernel_rfl) (by kernel_rfl) (fun _ _ _ h => h) (Or.inl ⟨by rfl, ?y2⟩) (by assumption) ?r2
              case y2 => (intro w hSw; (try dsimp only at hSw); go_simp; try (with_reducible rfl))
              simp only [List.getElem_toArray, List.getElem_cons_succ, List.getElem_cons_zero, Act.put, List.setIfInBounds_toArray, List.set_cons_zero, List.set_cons_succ]
              refine wpAnyH_take (i := 2) (v := ?v3) rfl (by kernel_rfl) (by kernel_rfl) (by kernel_rfl) (fun _ _ _ h => h) (Or.inl ⟨by rfl, ?y3⟩) (by assumption) ?r3
              case y3 => (intro w hSw; (try dsimp only at hSw); go_simp; try (with_reducible rfl))
              simp only [List.getElem_toArray, List.getElem_cons_succ, List.getElem_cons_zero, Act.put, List.setIfInBounds_toArray, List.set_cons_zero, List.set_cons_succ]
              refine wpAnyH_take (i := 3) (v := ?v4) rfl (by kernel_rfl) (by kernel_rfl) (by kernel_rfl) (fun _ _ _ h => h) (Or.inl ⟨by rfl, ?y4⟩) (by assumption) ?r4
              case y4 => (intro w hSw; (try dsimp only at hSw); go_simp; try (with_reducible rfl))
              simp only [List.getElem_toArray, List.getElem_cons_succ, List.getElem_cons_zero, Act.put, List.setIfInBounds_toArray, List.set_cons_zero, List.set_cons_succ]
              refine wpAnyH_take (i := 4) (v := ?v5) rfl (by kernel_rfl) (by kernel_rfl) (by kernel_rfl) (fun _ _ _ h => h) (Or.inl ⟨by rfl, ?y5⟩) (by assumption) ?r5
              case y5 => (intro w hSw; (try dsimp only at hSw); go_simp; try (with_reducible rfl))
              simp only [List.getElem_toArray, List.getElem_cons_succ, List.getElem_cons_zero, Act.put, List.setIfInBounds_toArray, List.set_cons_zero, List.set_cons_succ]
              try simp only [hB2]
              refine wpAnyH_take (i := 5) (v := ?v6) rfl (by kernel_rfl) (by kernel_rfl) (by kernel_rfl) (fun _ _ _ h => h) (Or.inl ⟨by rfl, ?y6⟩) (by assumption) ?r6
              case y6 => (intro w hSw; (try dsimp only at hSw); go_simp; try (with_reducible rfl))
              simp only [List.getElem_toArray, List.getElem_cons_succ, List.getElem_cons_zero, Act.put, List.setIfInBounds_toArray, List.set_cons_zero, List.set_cons_succ]
              refine wpAnyH_take (i := 6) (v := undef) rfl (by kernel_rfl) (by kernel_rfl) (by kernel_rfl) (fun _ _ _ h => h) (Or.inr ⟨by rfl, rfl⟩) (by assumption) ?_
              simp only [List.getElem_toArray, List.getElem_cons_succ, List.getElem_cons_zero, Act.put, List.setIfInBounds_toArray, List.set_cons_zero, List.set_cons_succ]
              refine wpAnyH_take (i := 7) (v := undef) rfl (by kernel_rfl) (by kernel_rfl) (by kernel_rfl) (fun _ _ _ h => h) (Or.inr ⟨by rfl, rfl⟩) (by assumption) ?_
              simp only [List.getElem_toArray, List.getElem_cons_succ, List.getElem_cons_zero, Act.put, List.setIfInBounds_toArray, List.set_cons_zero, List.set_cons_succ]
              refine wpAnyH_take (i := 8) (v := undef) rfl (by kernel_rfl) (by kernel_rfl) (by kernel_rfl) (fun _ _ _ h => h) (Or.inr ⟨by rfl, rfl⟩) (by assumption) ?_
              simp only [List.getElem_toArray, List.getElem_cons_succ, List.getElem_cons_zero, Act.put, List.setIfInBounds_toArray, List.set_cons_zero, List.set_cons_succ]
              refine wpAnyH_take (i := 9) (v := undef) rfl (by kernel_rfl) (by kernel_rfl) (by kernel_rfl) (fun _ _ _ h => h) (Or.inr ⟨by rfl, rfl⟩) (by assumption) ?_
              simp only [List.getElem_toArray, List.getElem_cons_succ, List.getElem_cons_zero, Act.put, List.setIfInBounds_toArray, List.set_cons_zero, List.set_cons_succ]
              refine wpAnyH_take (i := 10) (v := undef) rfl (by kernel_rfl) (by kernel_rfl) (by kernel_rfl) (fun _ _ _ h => h) (Or.inr ⟨by rfl, rfl⟩) (by assumption) ?_
              simp only [List.getElem_toArray, List.getElem_cons_succ, List.getElem_cons_zero, Act.put, List.setIfInBounds_toArray, List.set_cons_zero, List.set_cons_succ]
              refine wpAnyH_take (i := 11) (v := ?v12) rfl (by kernel_rfl) (by kernel_rfl) (by kernel_rfl) (fun _ _ _ h => h) (Or.inl ⟨by rfl, ?y12⟩) (by assumption) ?r12
              case y12 => (intro w hSw; (try dsimp only at hSw); go_simp; try (with_reducible rfl))
              simp only [List.getElem_toArray, List.getElem_cons_succ, List.getElem_cons_zero, Act.put, List.setIfInBounds_toArray, List.set_cons_zero, List.set_cons_succ]
              refine wpAnyH_take (i := 12) (v := ?v13) rfl (by kernel_rfl) (by kernel_rfl) (by kernel_rfl) (fun _ _ _ h => h) (Or.inl ⟨by rfl, ?y13⟩) (by assumption) ?r13
              case y13 => (intro w hSw; (try dsimp only at hSw); go_simp; try (with_reducible rfl))
              simp only [List.getElem_toArray, List.getElem_cons_succ, List.getElem_cons_zero, Act.put, List.setIfInBounds_toArray, List.set_cons_zero, List.set_cons_succ]
              refine wpAnyH_take (i := 13) (v := undef) rfl (by kernel_rfl) (by kernel_rfl) (by kernel_rfl) (fun _ _ _ h => h) (Or.inr ⟨by rfl, rfl⟩) (by assumption) ?_
              simp only [List.getElem_toArray, List.getElem_cons_succ, List.getElem_cons_zero, Act.put, List.setIfInBounds_toArray, List.set_cons_zero, List.set_cons_succ]
              refine wpAnyH_take (i := 14) (v := undef) rfl (by kernel_rfl) (by kernel_rfl) (by kernel_rfl) (fun _ _ _ h => h) (Or.inr ⟨by rfl, rfl⟩) (by assumption) ?_
              simp only [List.getElem_toArray, List.getElem_cons_succ, List.getElem_cons_zero, Act.put, List.setIfInBounds_toArray, List.set_cons_zero, List.set_cons_succ]
              refine wpAnyH_take (i := 15) (v := undef) rfl (by kernel_rfl) (by kernel_rfl) (by kernel_rfl) (fun _ _ _ h => h) (Or.inr ⟨by rfl, rfl⟩) (by assumption) ?_
              simp only [List.getElem_toArray, List.getElem_cons_succ, List.getElem_cons_zero, Act.put, List.setIfInBounds_toArray, List.set_cons_zero, List.set_cons_succ]
              refine wpAnyH_take (i := 16) (v := ?v17) rfl (by kernel_rfl) (by kernel_rfl) (by kernel_rfl) (fun _ _ _ h => h) (Or.inl ⟨by rfl, ?y17⟩) (by assumption) ?r17
              case y17 => (intro w hSw; (try dsimp only at hSw); go_simp; try (with_reducible rfl))
              simp only [List.getElem_toArray, List.getElem_cons_succ, List.getElem_cons_zero, Act.put, List.setIfInBounds_toArray, List.set_cons_zero, List.set_cons_succ]
              refine wpAnyH_take (i := 17) (v := ?v18) rfl (by kernel_rfl) (by kernel_rfl) (by kernel_rfl) (fun _ _ _ h => h) (Or.inl ⟨by rfl, ?y18⟩) (by assumption) ?r18
              case y18 => (intro w hSw; (try dsimp only at hSw); go_simp; try (with_reducible rfl))
              simp only [List.getElem_toArray, List.getElem_cons_succ, List.getElem_cons_zero, Act.put, List.setIfInBounds_toArray, List.set_cons_zero, List.set_cons_succ]
              refine wpAnyH_done (by kernel_rfl) ?_ _
              have B2 := hide (B1.out.trans (hHeld.2.mono B1.out.size))
              clear hHeld
              go_wp2
              go_ret
              exact ⟨rfl, B2.out⟩
end Go.Proofs.YtbcljhafdpnjbabDoor.L6

namespace Go.Proofs.YtbcljhafdpnjbabDoor.L6
open Go.RowKit L1
set_option linter.unusedVariables false

set_option maxRecDepth 100000 in
set_option maxHeartbeats 1000000 in
theorem isWithin_any (a : Option Addr) (L : List Pc) (n cap : Nat) (B o : Int) (w : World) (h : LogAt w a L n) (bb : Bool) (hbb : bb = true ↔ B ≤ o ∧ o ≤ lastEnd L n) :
    Calls Tryd.prog 47 #[.agg #[.slice a n cap, .int .i64 B], .int .i64 o] w fun e w' => e = .returned (.bool bb) ∧ Below w.heap.size w w' := by
  by_cases h1 : B ≤ o
  · have C := hide (fun wx (hb : Below w.heap.size w wx) => endOf_any a L n cap B wx (h.below hb))
    obtain ⟨E, hE⟩ : ∃ E, E = lastEnd L n := ⟨_, rfl⟩
    rw [← hE] at C hbb
    have hE2 : bb = decide (o ≤ E) := by
      cases bb with
      | true => exact (decide_eq_true (hbb.1 rfl).2).symm
      | false =>
        refine (decide_eq_false (fun h => ?_)).symm
        exact absurd (hbb.2 ⟨h1, h⟩) (by simp)
    subst hE2
    clear hbb h hE
    go_enter Tryd.func47, Tryd.ntmps47
    go_wp2_with fail
    refine (C.out _ ((Below.refl _ _).alloc (Nat.le_refl _) _)).mono ?_
    rintro e w1 ⟨rfl, hb1⟩
    have B1 := hide (((Below.refl w.heap.size w).alloc (Nat.le_refl _) (.cells #[.slice a n cap, .int .i64 B] 25 (0, 0))).trans (hb1.mono (by simp)))
    clear hb1
    go_wp2
    go_ret
    exact ⟨rfl, B1.out⟩
  · obtain rfl : bb = false := by
      cases bb with
      | false => rfl
      | true => exact absurd (hbb.1 rfl).1 h1
    clear hbb h
    go_enter Tryd.func47, Tryd.ntmps47
    go_wp2
    go_ret
    exact ⟨rfl, (Below.refl _ _).alloc (Nat.le_refl _) _⟩

set_option maxRecDepth 100000 in
set_option maxHeartbeats 1000000 in
theorem pieceAt_any (a : Option Addr) (L : List Pc) (n cap : Nat) (B o : Int) (w : World) (hn : L.length = n) (h1 : 1 ≤ n) (h20 : n ≤ 20) (hs : SlC w a L) (i : Nat) (hi : pcAt L o (n - 1) = i) :
    Calls Tryd.prog 48 #[.agg #[.slice a n cap, .int .i64 B], .int .i64 o] w fun e w' => e = .returned (.int .i64 i) ∧ Below w.heap.size w w' := by
  have hnm : (n : Int) - 1 = ((n - 1 : Nat) : Int) := by omega
  obtain ⟨m, hm⟩ : ∃ m, m = n - 1 := ⟨_, rfl⟩
  rw [← hm] at hnm hi
  have HS := hide (hs.below (w' := w.alloc (.cells #[.slice a n cap, .int .i64 B] 25 (0, 0))) ((Below.refl _ _).alloc (Nat.le_refl _) _))
  have HN := hide hn
  have HI := hide hi
  have hmn : m < n := by omega
  clear hn hs hi hm
  go_enter Tryd.func48, Tryd.ntmps48
  go_wp2
  go_loop [5] (fun t => ∃ k : Nat, k ≤ m ∧ t = .int .i64 k ∧ Hid (pcAt L o k = i)) (fun t => (intOf t).toNat)
  case atStart => exact ⟨m, Nat.le_refl _, rfl, HI.out⟩
  case round =>
    obtain ⟨k, hk, rfl, HK⟩ := hrel
    cases k with
    | zero =>
      have E : Hid (i = 0) := HK.out.symm
      go_wp2
      go_ret
      exact ⟨by rw [E.out]; rfl, (Below.refl _ _).alloc (Nat.le_refl _) _⟩
    | succ k =>
      obtain ⟨b, off, rfl, ai, ci, hat⟩ := HS.out (k + 1) (by rw [HN.out]; omega)
      have hd1 := hat.f
      rw [show L.getD (k + 1) eC = gc L (k + 1) from rfl] at hd1
      have hu : pcAt L o (k + 1) = if o < (gc L (k + 1)).f then pcAt L o k else k + 1 := rfl
      have hK := HK.out
      rw [hu] at hK
      obtain ⟨f, hf⟩ : ∃ f, f = (gc L (k + 1)).f := ⟨_, rfl⟩
      rw [← hf] at hd1 hK
      obtain ⟨j, hj⟩ : ∃ j, j = k + 1 := ⟨_, rfl⟩
      rw [← hj] at hd1 hK ⊢
      have hj0 : (0 : Int) < (j : Int) := by omega
      have hjn : (j : Int) < (n : Int) := by omega
      have hj1 : (j : Int) - 1 = (k : Int) := by omega
      have hjp : 0 < j := by omega
      have HKJ := hide hj
      clear hat hf hu HK hj
      by_cases hlt : o < f
      · rw [if_pos hlt] at hK
        have HK := hide hK
        clear hK
        go_wp2
        go_round
        case rel => exact ⟨k, by omega, rfl, HK.out⟩
        case measure => simp [intOf]; omega
      · rw [if_neg hlt] at hK
        have HK := hide hK
        clear hK
        go_wp2
        go_ret
        exact ⟨by rw [← HK.out]; rfl, (Below.refl _ _).alloc (Nat.le_refl _) _⟩

end Go.Proofs.YtbcljhafdpnjbabDoor.L6

namespace Go.Proofs.YtbcljhafdpnjbabDoor.L6
open Go.RowKit L1
set_option linter.unusedVariables false

theorem wrap_few (d : Nat) (h : d ≤ 1000) : wrap64 (d : Int) = (d : Int) := by
  unfold wrap64
  omega
set_option maxRecDepth 100000 in
set_option maxHeartbeats 1000000 in
theorem placeOf_any (f : Int) (s : ByteArray) (a : Option Addr) (xs : List Int) (n q : Nat) (t : Nat) (w : World) (hg : GoodP ⟨f, s, xs⟩) (hn : xs.length = n) (ha : Sl w a xs) (ht : t ≤ cnt s) (htab : Tab w) :
    Calls Tryd.prog 49 #[.agg #[.int .i64 f, .string s, .slice a n q], .int .i64 t] w fun e w' => e = .returned (.int .i64 (pl s 0 t : Nat)) ∧ Below w.heap.size w w' := by
  have hs60 : s.size ≤ 60 := hg.1
  have hwh : wh s = s.size := hg.2.1
  have hx : xs = ix s := hg.2.2
  have hnx : n = (cnt s + 2) / 3 := by rw [← hn, hx]; unfold ix; rw [ixk_len]
  have hcl := cnt_le s
  obtain ⟨d, hd⟩ : ∃ d, d = t / 3 := ⟨_, rfl⟩
  obtain ⟨r, hr⟩ : ∃ r, r = t % 3 := ⟨_, rfl⟩
  have hq1 : (t : Int).tdiv 3 = (d : Int) := by rw [Int.tdiv_eq_ediv_of_nonneg (by omega)]; omega
  have hq2 : (t : Int).tmod 3 = (r : Int) := by rw [Int.tmod_eq_emod_of_nonneg (by omega)]; omega
  have htd : t = 3 * d + r := by omega
  have hd60 : d ≤ 1000 := by omega
  by_cases hend : d = n
  · have htc : t = cnt s := by omega
    subst hend
    have E : Hid (pl s 0 t = s.size) := by show pl s 0 t = _; rw [htc]; exact hwh
    clear hg hn ha hx hnx hwh htab hd hr htd htc hcl
    have hw1 := wrap_few d hd60
    go_enter Tryd.func49, Tryd.ntmps49
    go_wp2
    go_ret
    exact ⟨by rw [E.out]; rfl, (Below.refl _ _).alloc (Nat.le_refl _) _⟩
  · have hdn : d < n := by omega
    obtain ⟨b, off, rfl, hc0⟩ := ha d (by rw [hn]; exact hdn)
    rw [hx, show (ix s).getD d 0 = (pl s 0 (3 * d) : Int) by unfold ix; exact ixk_get s _ d (by omega)] at hc0
    have hc := Go.Lib.cell?_alloc_some (.cells #[.int .i64 f, .string s, .slice (some ⟨b, off, none⟩) n q] 50 (0, 0)) hc0
    have hdI : (d : Int) < (n : Int) := by omega
    have hd0 : (0 : Int) ≤ (d : Int) := by omega
    have C := hide (fun (j : Nat) (hj : j < cnt s) wx (ht : Tab wx) => by
      obtain ⟨c, m, h1, h2⟩ := cnt_rc s j hj
      exact recordAt_some s (pl s 0 j) c m wx h1 (by omega) ht)
    have HT := hide htab
    have hr3 : r < 3 := by omega
    have HTD := hide htd
    have HTC : Hid (3 * d + r ≤ cnt s) := by show 3 * d + r ≤ cnt s; omega
    obtain ⟨p, hp⟩ : ∃ p, p = pl s 0 (3 * d) := ⟨_, rfl⟩
    rw [← hp] at hc
    have HP := hide hp
    clear hg hn ha hx hnx hwh htab hd hr htd hcl hc0 hp
    have hw1 := wrap_few d hd60
    have hde : ((d : Int) == (n : Int)) = false := by simp; omega
    go_enter Tryd.func49, Tryd.ntmps49
    go_wp2
    go_loopw [5, 23] (fun x i wr => ∃ j : Nat, j ≤ r ∧ i = .int .i64 j ∧ x = .int .i64 (pl s 0 (3 * d + j) : Nat) ∧ wr.cell? ⟨w.heap.size, 1, none⟩ = some (.string s) ∧ Below w.heap.size w wr) (fun _ i _ => r - (intOf i).toNat)
    case atStart => exact ⟨0, Nat.zero_le _, rfl, by rw [HP.out]; rfl, (blk3 (blk_new w (.cells #[.int .i64 f, .string s, .slice (some ⟨b, off, none⟩) n q] 50 (0, 0)))).2.1, (Below.refl _ _).alloc (Nat.le_refl _) _⟩
    case round =>
      obtain ⟨j, hj, rfl, rfl, k1, hbel⟩ := hrel
      by_cases hlt : j < r
      · have hltI : (j : Int) < (r : Int) := by omega
        have C1 := hide (C.out (3 * d + j) (by have := HTC.out; omega) wr (HT.out.below hbel))
        have e1 : nx s (pl s 0 (3 * d + j)) = pl s 0 (3 * d + j + 1) := rfl
        rw [e1] at C1
        clear e1
        obtain ⟨y, hy⟩ : ∃ y, y = rtx s (pl s 0 (3 * d + j)) := ⟨_, rfl⟩
        rw [← hy] at C1
        obtain ⟨x, hx⟩ : ∃ x, x = pl s 0 (3 * d + j) := ⟨_, rfl⟩
        rw [← hx] at C1 ⊢
        obtain ⟨z, hz⟩ : ∃ z, z = pl s 0 (3 * d + j + 1) := ⟨_, rfl⟩
        rw [← hz] at C1
        have HZ := hide hz
        clear hx hy hz
        go_wp2_with fail
        refine C1.out.mono ?_
        rintro e w1 ⟨rfl, rfl⟩
        go_wp2
        go_roundw
        case rel => exact ⟨j + 1, by omega, by go_num, by rw [HZ.out, Nat.add_assoc], k1, hbel⟩
        case measure => simp [intOf]; omega
      · obtain rfl : j = r := by omega
        have hltI : ¬ (j : Int) < (j : Int) := by omega
        have E : Hid (pl s 0 t = pl s 0 (3 * d + j)) := by show pl s 0 t = _; rw [HTD.out]
        obtain ⟨x, hx⟩ : ∃ x, x = pl s 0 (3 * d + j) := ⟨_, rfl⟩
        rw [← hx] at E ⊢
        clear hx
        go_wp2
        go_ret
        exact ⟨by rw [E.out]; rfl, hbel⟩
end Go.Proofs.YtbcljhafdpnjbabDoor.L6

namespace Go.Proofs.YtbcljhafdpnjbabDoor.L6
open Go.RowKit L1
set_option linter.unusedVariables false

theorem blk_secondC (w : World) (x y : Obj) : ((w.alloc x).alloc y).heap[w.heap.size + 1]? = some y := by
  have := blk_new (w.alloc x) y
  rw [World.size_alloc] at this
  exact this
theorem blk_firstC (w : World) (x y : Obj) : ((w.alloc x).alloc y).heap[w.heap.size]? = some x :=
  (((Below.refl (w.alloc x).heap.size _).alloc (Nat.le_refl _) _).block w.heap.size (by simp)).trans (blk_new _ _)
theorem piece_logC : 50 ≠ 25 := by decide
theorem int_logC : 3 ≠ 25 := by decide
theorem own_setBC {w : World} {base n c b i : Nat} {t u : TypeId} {v : Value} {ys : List Value} {cur : Array Value} {x : Value} (h : w.ownsRow base t c v n ys) (hb : w.heap[b]? = some (.cells cur u (0, 0))) (htu : t ≠ u) : (w.setCell ⟨b, i, none⟩ x).ownsRow base t c v n ys := by
  refine ⟨h.1, ?_⟩
  rcases h.2 with h0 | ⟨g, cap, cu, rfl, hbg, hg, r⟩
  · exact .inl h0
  · refine .inr ⟨g, cap, cu, rfl, hbg, ?_, r⟩
    rw [Below.heap_setCell _ _ _ _ (fun e => by
      have e' : g = b := e
      rw [e', hb] at hg
      simp at hg
      exact htu hg.2.symm)]
    exact hg
theorem OwC.setBC {w : World} {base n b i : Nat} {v x : Value} {M : List PV} {cur : Array Value} (h : OwC w base v n M) (hb : w.heap[b]? = some (.cells cur 25 (0, 0))) : OwC (w.setCell ⟨b, i, none⟩ x) base v n M :=
  ⟨h.len, own_setBC h.row hb piece_logC, fun j hj => own_setBC (h.idx j hj) hb int_logC, h.apart⟩
/-- A log that a call hands back, in new memory. -/
def RetK (w : World) (L : List Pc) (B : Int) (ok : Bool) (e : Ending) (w' : World) : Prop :=
  ∃ a c, e = .returned (.tuple #[.agg #[.slice a L.length c, .int .i64 B], .bool ok]) ∧ ∃ M, pcs M = L ∧ OwC w' w.heap.size (.slice a L.length c) L.length M ∧ Below w.heap.size w w'
theorem retK_none {w w' : World} (hb : Below w.heap.size w w') : RetK w [] 0 false (.returned (.tuple #[.agg #[.slice none 0 0, .int .i64 0], .bool false])) w' := ⟨_, _, rfl, [], rfl, own_nilC _ _, hb⟩
/-- The copy with its last piece cut. -/
structure CutAt (w : World) (base go g n K : Nat) (B : Int) (M : List PV) (p : Pc) (wx : World) : Prop where
  own : ∃ u, OwC wx base (.slice (some ⟨g, 0, none⟩) (K + 1) n) (K + 1) ((M.take (K + 1)).set K (p, u))
  bel : Below w.heap.size w wx
  res : wx.heap[w.heap.size + 1]? = some (.cells #[.slice none 0 0, .int .i64 0] 25 (0, 0))
  out : wx.heap[go]? = some (.cells #[.slice (some ⟨g, 0, none⟩) (K + 1) n, .int .i64 B] 25 (0, 0))
theorem cut_pcs {M : List PV} {L : List Pc} {K : Nat} {p : Pc} {u : Value} (hM : pcs M = L) (hK : K < L.length) : pcs ((M.take (K + 1)).set K (p, u)) = L.take K ++ [p] := by
  show List.map _ _ = _
  rw [List.map_set, List.map_take, show List.map Prod.fst M = L from hM]
  apply List.ext_getElem?
  intro i
  by_cases e : i = K
  · subst e
    rw [List.getElem?_set_self (by simp; omega), List.getElem?_append_right (by simp; omega)]
    simp [Nat.min_eq_left (Nat.le_of_lt hK)]
  · rw [List.getElem?_set_ne (by omega)]
    by_cases hi : i < K
    · rw [List.getElem?_append_left (by simp; omega), List.getElem?_take, List.getElem?_take, if_pos (by omega), if_pos hi]
    · rw [List.getElem?_eq_none (by simp; omega), List.getElem?_eq_none (by simp; omega)]

open Classical in
set_option maxRecDepth 100000 in
set_option maxHeartbeats 4000000 in
theorem implCut_any (a : Option Addr) (L : List Pc) (n cap : Nat) (B o : Int) (w : World) (ho1 : -9223372036854775808 ≤ o) (ho2 : o ≤ 9223372036854775807) (hn : L.length = n) (hm : n ≤ 9223372036854775807) (hs : SlC w a L) (hst : TxC L) (ht : Tab w) (L' : List Pc) (B' : Int) (ok : Bool) (hr : CutIs L B o L' B' ok) :
    Calls Tryd.prog 16 #[.agg #[.slice a n cap, .int .i64 B], .int .i64 o] w (RetK w L' B' ok) := by
  obtain ⟨bk, hbk⟩ : ∃ bk : Bool, bk = true ↔ GoodG L B := ⟨decide (GoodG L B), by simp⟩
  have C1 := hide (fun wx (hb : Below w.heap.size w wx) => goodLog_any a L n cap B wx hn hm (hs.below hb) hst (ht.below hb) bk hbk)
  have BX := hide (((Below.refl w.heap.size w).alloc (Nat.le_refl _) (.cells #[.slice a n cap, .int .i64 B] 25 (0, 0))).alloc (by simp) (.cells #[.slice none 0 0, .int .i64 0] 25 (0, 0)))
  cases bk with
  | false =>
    obtain ⟨rfl, rfl, rfl⟩ := hr.no (fun h => absurd (hbk.2 h.1) (by simp))
    clear hr hs hn hst hbk ht
    go_enter Tryd.func16, Tryd.ntmps16
    go_wp2_with fail
    refine (C1.out _ BX.out).mono ?_
    rintro e w1 ⟨rfl, hb1⟩
    obtain ⟨z0, z1, z2, z3⟩ := blkp ((hb1.block (w.heap.size + 1) (by simp)).trans (blk_secondC w _ _))
    have B1 := hide (BX.out.trans (hb1.mono BX.out.size))
    clear hb1
    go_wp2
    refine bodyPost_ret (v := .tuple #[.agg #[.slice none 0 0, .int .i64 0], .bool false]) (by simp [results, Tryd.f16, go_sem, z0, z1]) rfl (retK_none ((B1.out.setCell (p := ⟨_, _, none⟩) (Nat.le_succ _) _).setCell (p := ⟨_, _, none⟩) (Nat.le_succ _) _))
  | true =>
    have hg := hbk.1 rfl
    have hn1 : 1 ≤ n := by have := hg.one; omega
    have hn20 : n ≤ 20 := by have := hg.many; omega
    have hla := hg.logAt hn hs ht
    have hlast := hg.last hn
    obtain ⟨bi, hbi⟩ : ∃ bi : Bool, bi = true ↔ B ≤ o ∧ o ≤ lastEnd L n := ⟨decide (B ≤ o ∧ o ≤ lastEnd L n), by simp⟩
    have CI := hide (fun wx (hb : Below w.heap.size w wx) => isWithin_any a L n cap B o wx (hla.below hb) bi hbi)
    cases bi with
    | false =>
      obtain ⟨rfl, rfl, rfl⟩ := hr.no (fun h => absurd (hbi.2 ⟨h.2.1, by rw [hlast]; exact h.2.2⟩) (by simp))
      clear hr hs hn hst hbk ht hg hla hlast hbi
      go_enter Tryd.func16, Tryd.ntmps16
      go_wp2_with fail
      refine (C1.out _ BX.out).mono ?_
      rintro e w1 ⟨rfl, hb1⟩
      have B1 := hide (BX.out.trans (hb1.mono BX.out.size))
      have G1 : Hid (w1.heap[w.heap.size + 1]? = some (.cells #[.slice none 0 0, .int .i64 0] 25 (0, 0))) := (hb1.block (w.heap.size + 1) (by simp)).trans (blk_secondC w _ _)
      obtain ⟨k0, k1, _, _⟩ := blkp ((hb1.block w.heap.size (by simp only [World.size_alloc]; omega)).trans (blk_firstC w _ _))
      clear hb1
      go_wp2_with fail
      refine (CI.out _ B1.out).mono ?_
      rintro e w2 ⟨rfl, hb2⟩
      obtain ⟨z0, z1, z2, z3⟩ := blkp ((hb2.block (w.heap.size + 1) (Array.getElem?_eq_some_iff.1 G1.out).1).trans G1.out)
      have B2 := hide (B1.out.trans (hb2.mono B1.out.size))
      clear hb2 k0 k1
      go_wp2
      refine bodyPost_ret (v := .tuple #[.agg #[.slice none 0 0, .int .i64 0], .bool false]) (by simp [results, Tryd.f16, go_sem, z0, z1]) rfl (retK_none ((B2.out.setCell (p := ⟨_, _, none⟩) (Nat.le_succ _) _).setCell (p := ⟨_, _, none⟩) (Nat.le_succ _) _))
    | true =>
      obtain ⟨hBo, hoE⟩ := hbi.1 rfl
      rw [hlast] at hoE
      have hcok : CutOk L B o := ⟨hg, hBo, hoE⟩
      obtain ⟨hL', hB', rfl⟩ := hr.yes hcok
      obtain ⟨K, hK⟩ : ∃ K, K = cutK L o := ⟨_, rfl⟩
      have hKn : K < n := by rw [hK, ← hn]; exact cutK_lt hg.one
      obtain ⟨hsp1, hsp2⟩ := cut_spot hg hBo hoE
      have hpc : pcAt L (o - 1) (n - 1) = K := by rw [hK, ← hn]; rfl
      unfold cutL at hL'
      rw [← hK] at hL' hsp1 hsp2
      have hgp := (hg.ps K (by omega)).1
      have hend := hg.end0
      have C2 := hide (fun wx (hb : Below w.heap.size w wx) => copyLog_any a L n cap B wx hn hn1 hn20 (hs.below hb) (hg.small hn))
      have CQ := hide (fun wx (hb : Below w.heap.size w wx) => pieceAt_any a L n cap B (o - 1) wx hn hn1 hn20 (hs.below hb) K hpc)
      have hoo : 0 ≤ o ∧ o ≤ 100060 := by omega
      obtain ⟨ho0, ho3⟩ := hoo
      have hfb : 0 ≤ (gc L K).f := by
        have h1 := (hg.ps K (by omega)).2.1
        have h2 := (atg_bd L K (fun j hj => (hg.ps j (by omega)).1)).1
        have := hg.f0
        omega
      have HN := hide hn
      have HT := hide ht
      have HGP := hide hgp
      have HL' := hide hL'
      have HB' := hide hB'
      clear hs hn hg hst hbk ht hr hla hlast hbi hcok hK hpc hL' hB' hgp hend hBo hoE ho1 ho2
      go_enter Tryd.func16, Tryd.ntmps16
      go_wp2_with fail
      refine (C1.out _ BX.out).mono ?_
      rintro e wa ⟨rfl, hb1⟩
      have BA := hide (BX.out.trans (hb1.mono BX.out.size))
      have GA : Hid (wa.heap[w.heap.size + 1]? = some (.cells #[.slice none 0 0, .int .i64 0] 25 (0, 0))) := (hb1.block (w.heap.size + 1) (by simp)).trans (blk_secondC w _ _)
      obtain ⟨k0, k1, _, _⟩ := blkp ((hb1.block w.heap.size (by simp only [World.size_alloc]; omega)).trans (blk_firstC w _ _))
      clear hb1
      go_wp2_with fail
      refine (CI.out _ BA.out).mono ?_
      rintro e w0 ⟨rfl, hb2⟩
      have B0 := hide (BA.out.trans (hb2.mono BA.out.size))
      have G0 : Hid (w0.heap[w.heap.size + 1]? = some (.cells #[.slice none 0 0, .int .i64 0] 25 (0, 0))) := (hb2.block (w.heap.size + 1) (Array.getElem?_eq_some_iff.1 GA.out).1).trans GA.out
      have j0 := (hb2.cell (p := ⟨w.heap.size, 0, none⟩) (blk_lt k0)).trans k0
      have j1 := (hb2.cell (p := ⟨w.heap.size, 1, none⟩) (blk_lt k0)).trans k1
      clear hb2 k0 k1 BA GA
      go_wp2_with fail
      refine (C2.out _ B0.out).mono ?_
      rintro e w1 ⟨g, M, rfl, hM, ho, hb3⟩
      have B1 := hide (B0.out.trans (hb3.mono B0.out.size))
      have hsz0 : w.heap.size + 1 < w0.heap.size := (Array.getElem?_eq_some_iff.1 G0.out).1
      have G1 : Hid (w1.heap[w.heap.size + 1]? = some (.cells #[.slice none 0 0, .int .i64 0] 25 (0, 0))) := (hb3.block (w.heap.size + 1) hsz0).trans G0.out
      have l0 := (hb3.cell (p := ⟨w.heap.size, 0, none⟩) (blk_lt j0)).trans j0
      have l1 := (hb3.cell (p := ⟨w.heap.size, 1, none⟩) (blk_lt j0)).trans j1
      have e0 := Go.Lib.cell?_alloc_some (.cells #[.slice (some ⟨g, 0, none⟩) n n, .int .i64 B] 25 (0, 0)) l0
      have e1 := Go.Lib.cell?_alloc_some (.cells #[.slice (some ⟨g, 0, none⟩) n n, .int .i64 B] 25 (0, 0)) l1
      have hgb := own_ltC ho.row g rfl
      have hz01 := hb3.size
      have BA1 := hide (B1.out.alloc B1.out.size (.cells #[.slice (some ⟨g, 0, none⟩) n n, .int .i64 B] 25 (0, 0)))
      have HO := hide ho
      have HM := hide hM
      clear hb3 j0 j1 l0 l1 ho hM B0 G0
      go_wp2_with fail
      refine (CQ.out _ BA1.out).mono ?_
      rintro e w2 ⟨rfl, hb4⟩
      have hal := (Below.refl w1.heap.size w1).alloc (Nat.le_refl _) (.cells #[.slice (some ⟨g, 0, none⟩) n n, .int .i64 B] 25 (0, 0))
      have hb12 : Below w1.heap.size w1 w2 := hal.trans (hb4.mono hal.size)
      have GO : Hid (w2.heap[w1.heap.size]? = some (.cells #[.slice (some ⟨g, 0, none⟩) n n, .int .i64 B] 25 (0, 0))) := (hb4.block w1.heap.size (by simp)).trans (blk_new _ _)
      have G2 : Hid (w2.heap[w.heap.size + 1]? = some (.cells #[.slice none 0 0, .int .i64 0] 25 (0, 0))) := (hb12.block (w.heap.size + 1) (Array.getElem?_eq_some_iff.1 G1.out).1).trans G1.out
      have B2 := hide (B1.out.trans (hb12.mono B1.out.size))
      have HO2 := hide (HO.out.below hb12)
      obtain ⟨o0, o1, _, _⟩ := blkp GO.out
      have hsz2 : w1.heap.size < w2.heap.size := (Array.getElem?_eq_some_iff.1 GO.out).1
      obtain ⟨f1, f2, f3⟩ := flatC_get M K (by rw [HO.out.len]; exact hKn)
      have hp1 : (M.getD K eV).1 = gc L K := by
        have := pcs_get M K (by rw [HO.out.len]; exact hKn)
        rw [HM.out] at this
        exact this.symm
      obtain ⟨ai, ci, hv, hsl, _⟩ := own_form (HO2.out.idx K hKn)
      rw [hv] at f3
      rw [hp1] at f1 f2 f3 hsl
      have hfl : (flatC M).length = n * 3 := by rw [flatC_len, HO.out.len]
      have d1 := (HO2.out.row.cellAt (K * 3) (by omega)).trans f1
      have d2 := (HO2.out.row.cellAt (K * 3 + 1) (by omega)).trans f2
      have d3 := (HO2.out.row.cellAt (K * 3 + 2) (by omega)).trans f3
      have hKI : (K : Int) < (n : Int) := by omega
      have hK0 : (0 : Int) ≤ (K : Int) := by omega
      obtain ⟨p, hp⟩ : ∃ p, p = gc L K := ⟨_, rfl⟩
      rw [← hp] at d1 d2 d3 hsp1 hsp2 HGP HL' hfb hsl
      obtain ⟨f, s, x⟩ := p
      simp only at d1 d2 d3 hsp1 hsp2 hfb hsl
      obtain ⟨xl, hxl⟩ : ∃ xl, xl = x.length := ⟨_, rfl⟩
      rw [← hxl] at d3
      have HXL := hide hxl
      have HV := hide hv
      have HP1 := hide hp1
      have HP := hide hp
      have B4 := hide hb12
      clear hb4 hal hb12 f1 f2 f3 hp1 hv hfl hp hxl hsl e0 e1 BA1 HO
      have hb25 := (Below.refl w2.heap.size w2).alloc (Nat.le_refl _) (.cells #[.int .i64 f, .string s, .slice ai xl ci] 50 (0, 0))
      have CS := hide (shorten_any w0.heap.size g n (K + 1) M (w2.alloc (.cells #[.int .i64 f, .string s, .slice ai xl ci] 50 (0, 0))) (by omega) (by omega) (HO2.out.below hb25))
      rw [show ((K + 1 : Nat) : Int) = (K : Int) + 1 from by omega] at CS
      have r0 := Go.Lib.cell?_alloc_some (.cells #[.int .i64 f, .string s, .slice ai xl ci] 50 (0, 0)) o0
      have r1 := Go.Lib.cell?_alloc_some (.cells #[.int .i64 f, .string s, .slice ai xl ci] 50 (0, 0)) o1
      have HB25 := hide hb25
      clear hb25
      go_wp2_with fail
      refine CS.out.mono ?_
      rintro e w3 ⟨rfl, ho3, hg3⟩
      have hne : ∀ q, q ≠ g → q < w2.heap.size + 1 → w3.heap[q]? = (w2.alloc (.cells #[.int .i64 f, .string s, .slice ai xl ci] 50 (0, 0))).heap[q]? := fun q h1 h2 => hg3.block q (by simpa using h2) (fun e => h1 (by simpa using e))
      have GP : Hid (w3.heap[w2.heap.size]? = some (.cells #[.int .i64 f, .string s, .slice ai xl ci] 50 (0, 0))) := (hne w2.heap.size (by omega) (by omega)).trans (blk_new _ _)
      have GO3 : Hid (w3.heap[w1.heap.size]? = some (.cells #[.slice (some ⟨g, 0, none⟩) n n, .int .i64 B] 25 (0, 0))) := (hne w1.heap.size (by omega) (by omega)).trans ((HB25.out.block w1.heap.size hsz2).trans GO.out)
      have G3 : Hid (w3.heap[w.heap.size + 1]? = some (.cells #[.slice none 0 0, .int .i64 0] 25 (0, 0))) := (hne (w.heap.size + 1) (by omega) (by omega)).trans ((HB25.out.block (w.heap.size + 1) (by omega)).trans G2.out)
      have B3 : Hid (Below w.heap.size w w3) := hide ((B2.out.trans (HB25.out.mono B2.out.size)).grown hg3 (by have := B2.out.size; simp; omega) (fun q hq => by cases hq; omega))
      have hz3 : w2.heap.size + 1 ≤ w3.heap.size := by have := hg3.size; simpa using this
      obtain ⟨y0, y1, y2, y3⟩ := blkp GO3.out
      have HO3 := hide (ho3.setBC (i := 0) (x := .slice (some ⟨g, 0, none⟩) (K + 1) n) GO3.out)
      clear ho3 hne hg3 CS o0 o1 r0 r1 d1 d2 d3 HO2 GO G1 G2 B4 HB25 B2
      obtain ⟨t, hot⟩ : ∃ t : Nat, o - f = (t : Int) := ⟨(o - f).toNat, by omega⟩
      have htc : t ≤ cnt s := by omega
      obtain ⟨k, hk⟩ : ∃ k, k = pl s 0 t := ⟨_, rfl⟩
      have hks : k ≤ s.size := by rw [hk]; exact pl_le s t
      have hs60 : s.size ≤ 60 := HGP.out.1
      have q := fun w => slice_to w s k hks
      obtain ⟨y, hy⟩ : ∃ y, y = s.extract 0 k := ⟨_, rfl⟩
      rw [← hy] at q
      have hys : y.size ≤ 60 := by rw [hy]; simp; omega
      have hYy : y.extract 0 (wh y) = y := by
        have h1 := cut_wh s t htc
        rw [← hk, ← hy] at h1
        have h2 : y.size = k := by rw [hy]; simp; omega
        rw [h1, ← h2]
        apply ByteArray.ext
        simp
      have hcutP : cutP ⟨f, s, x⟩ o = ⟨f, y, ix y⟩ := by
        unfold cutP
        simp only
        rw [show (o - f).toNat = t by omega, ← hk, ← hy]
      have HCP := hide hcutP
      have HK := hide hk
      have HYY := hide hYy
      have hwt : IntKind.i64.wrap (t : Int) = (t : Int) := wrap6 (by omega) (by have := cnt_le s; omega)
      have hwr : IntKind.i64.wrap (o - f) = (t : Int) := by rw [hot]; exact wrap6 (by omega) (by have := cnt_le s; omega)
      clear hy hk hcutP hYy
      go_upto_region 7 with fail
      generalize hW : w3.setCell ⟨w1.heap.size, 0, none⟩ (.slice (some ⟨g, 0, none⟩) (K + 1) n) = W
      rw [hW] at HO3
      have GO4 : W.heap[w1.heap.size]? = some (.cells #[.slice (some ⟨g, 0, none⟩) (K + 1) n, .int .i64 B] 25 (0, 0)) := by
        rw [← hW]
        exact heap_setCell_same w3 w1.heap.size 0 _ _ _ GO3.out
      have GP4 : W.heap[w2.heap.size]? = some (.cells #[.int .i64 f, .string s, .slice ai xl ci] 50 (0, 0)) := by
        rw [← hW, Below.heap_setCell _ _ _ _ (by show w2.heap.size ≠ w1.heap.size; omega)]
        exact GP.out
      have G4 : W.heap[w.heap.size + 1]? = some (.cells #[.slice none 0 0, .int .i64 0] 25 (0, 0)) := by
        rw [← hW, Below.heap_setCell _ _ _ _ (by show w.heap.size + 1 ≠ w1.heap.size; omega)]
        exact G3.out
      have B4 : Hid (Below w.heap.size w W) := by
        rw [← hW]
        exact hide (B3.out.setCell (p := ⟨w1.heap.size, 0, none⟩) (by show w.heap.size ≤ w1.heap.size; omega) _)
      have hWs : w2.heap.size < W.heap.size := (Array.getElem?_eq_some_iff.1 GP4).1
      obtain ⟨o0, o1, _, _⟩ := blkp GO4
      obtain ⟨p0, p1, p2, _, _, _⟩ := blk3 GP4
      have hidx : W.ownsRow w0.heap.size 3 1 (.slice ai xl ci) xl (x.map (Value.int .i64)) := by
        have h1 := HO3.out.idx K (by omega)
        rw [take_getD M (K + 1) K (by omega), HV.out, HP1.out, ← HP.out] at h1
        simp only [← HXL.out] at h1
        exact h1
      have HSL4 := hide (own_slI6 hidx)
      have HGO := hide GO4
      have HGP4 := hide GP4
      have HG4 := hide G4
      clear hW hidx GO4 GP4 G4 y0 y1 y2 y3 GP GO3 G3 B3
      obtain ⟨N, hN⟩ : ∃ N, N = (ix y).length := ⟨_, rfl⟩
      have cells : Hid (∀ wx, Below W.heap.size W wx → (wx.cell? ⟨w1.heap.size, 0, none⟩ = some (.slice (some ⟨g, 0, none⟩) (K + 1) n) ∧ wx.cell? ⟨w1.heap.size, 1, none⟩ = some (.int .i64 B)) ∧ (wx.cell? ⟨w2.heap.size, 0, none⟩ = some (.int .i64 f) ∧ wx.cell? ⟨w2.heap.size, 1, none⟩ = some (.string s) ∧ wx.cell? ⟨w2.heap.size, 2, none⟩ = some (.slice ai xl ci))) := hide (fun wx hb => by
        obtain ⟨a0, a1, _, _⟩ := blkp ((hb.block w1.heap.size (Array.getElem?_eq_some_iff.1 HGO.out).1).trans HGO.out)
        obtain ⟨b0, b1, b2, _, _, _⟩ := blk3 ((hb.block w2.heap.size hWs).trans HGP4.out)
        exact ⟨⟨a0, a1⟩, b0, b1, b2⟩)
      have CP : Hid (∀ wx, Below W.heap.size W wx → Calls Tryd.prog 49 #[.agg #[.int .i64 f, .string s, .slice ai xl ci], .int .i64 (t : Int)] wx fun e w4 => e = .returned (.int .i64 (k : Int)) ∧ Below W.heap.size W w4 ∧ (w4.cell? ⟨w1.heap.size, 0, none⟩ = some (.slice (some ⟨g, 0, none⟩) (K + 1) n) ∧ w4.cell? ⟨w1.heap.size, 1, none⟩ = some (.int .i64 B)) ∧ (w4.cell? ⟨w2.heap.size, 0, none⟩ = some (.int .i64 f) ∧ w4.cell? ⟨w2.heap.size, 1, none⟩ = some (.string s) ∧ w4.cell? ⟨w2.heap.size, 2, none⟩ = some (.slice ai xl ci))) := hide (fun wx hb => by
        refine (placeOf_any f s ai x xl ci t wx HGP.out HXL.out.symm (HSL4.out.below hb) htc (HT.out.below (B4.out.trans (hb.mono B4.out.size)))).mono ?_
        rintro e w4 ⟨rfl, hb4⟩
        have hb5 := hb.trans (hb4.mono hb.size)
        exact ⟨by rw [HK.out], hb5, cells.out w4 hb5⟩)
      have CW : Hid (∀ wx, Below W.heap.size W wx → Calls Tryd.prog 36 #[.int .i64 f, .string y] wx fun e w5 => ∃ a2 q2, e = .returned (.agg #[.int .i64 f, .string y, .slice a2 N q2]) ∧ (w5.ownsRow W.heap.size 3 1 (.slice a2 N q2) N ((ix y).map (Value.int .i64)) ∧ Below W.heap.size W w5) ∧ (∃ u0 u1 u2, w5.cell? ⟨g, K * 3, none⟩ = some u0 ∧ w5.cell? ⟨g, K * 3 + 1, none⟩ = some u1 ∧ w5.cell? ⟨g, K * 3 + 2, none⟩ = some u2) ∧ (w5.frozen? ⟨g, K * 3, none⟩ = false ∧ w5.frozen? ⟨g, K * 3 + 1, none⟩ = false ∧ w5.frozen? ⟨g, K * 3 + 2, none⟩ = false) ∧ (w5.cell? ⟨w1.heap.size, 0, none⟩ = some (.slice (some ⟨g, 0, none⟩) (K + 1) n) ∧ w5.cell? ⟨w1.heap.size, 1, none⟩ = some (.int .i64 B)) ∧ (w5.cell? ⟨w2.heap.size, 0, none⟩ = some (.int .i64 f) ∧ w5.cell? ⟨w2.heap.size, 1, none⟩ = some (.string s) ∧ w5.cell? ⟨w2.heap.size, 2, none⟩ = some (.slice ai xl ci))) := hide (fun wx hb => by
        refine (wholePiece_any f y wx (by omega) (HT.out.below (B4.out.trans (hb.mono B4.out.size)))).mono ?_
        rintro e w5 ⟨v2, rfl, ho2, hb2⟩
        have hb3 := hb.trans (hb2.mono hb.size)
        rw [← hN] at ho2
        obtain ⟨a2, q2, rfl, _, _⟩ := own_form ho2
        rw [HYY.out]
        have R := (HO3.out.below hb3).row
        have hfl : (flatC (M.take (K + 1))).length = (K + 1) * 3 := by rw [flatC_len, HO3.out.len]
        exact ⟨a2, q2, rfl, ⟨own_baseC ho2 hb.size, hb3⟩, ⟨_, _, _, (R.cellAt (K * 3) (by omega)).trans (List.getElem?_eq_getElem (by omega)), (R.cellAt (K * 3 + 1) (by omega)).trans (List.getElem?_eq_getElem (by omega)), (R.cellAt (K * 3 + 2) (by omega)).trans (List.getElem?_eq_getElem (by omega))⟩, ⟨R.frozenAt _, R.frozenAt _, R.frozenAt _⟩, (cells.out w5 hb3).1, (cells.out w5 hb3).2⟩)
      have HNN := hide hN
      have hw0W : w0.heap.size ≤ W.heap.size := by omega
      have PP : Hid (∀ w5 a2 q2, (w5.ownsRow W.heap.size 3 1 (.slice a2 N q2) N ((ix y).map (Value.int .i64)) ∧ Below W.heap.size W w5) → CutAt w w0.heap.size w1.heap.size g n K B M ⟨f, y, ix y⟩ (((w5.setCell ⟨g, K * 3, none⟩ (.int .i64 f)).setCell ⟨g, K * 3 + 1, none⟩ (.string y)).setCell ⟨g, K * 3 + 2, none⟩ (.slice a2 N q2)) ∧ w5.grownBy (((w5.setCell ⟨g, K * 3, none⟩ (.int .i64 f)).setCell ⟨g, K * 3 + 1, none⟩ (.string y)).setCell ⟨g, K * 3 + 2, none⟩ (.slice a2 N q2)) (some g)) := by
        intro w5 a2 q2 h
        have P := (HO3.out.below h.2).put K (by omega) ⟨f, y, ix y⟩ (.slice a2 N q2) (by show w5.ownsRow _ _ _ _ (ix y).length _; rw [← HNN.out]; exact own_baseC h.1 hw0W) (fun i hi _ bb hbb e => by
          have h1 := (own_ltC h.1 bb hbb).1
          have h2 := (own_ltC (HO3.out.idx i hi) bb e).2
          omega)
        have hs2 := h.2.size
        refine ⟨⟨⟨_, P.1⟩, (B4.out.trans (h.2.mono B4.out.size)).grown P.2 (Nat.le_trans B4.out.size hs2) (fun q hq => by cases hq; omega), (P.2.block (w.heap.size + 1) (by omega) (by simp; omega)).trans ((h.2.block _ (by omega)).trans HG4.out), (P.2.block w1.heap.size (by omega) (by simp; omega)).trans ((h.2.block _ (by omega)).trans HGO.out)⟩, P.2⟩
      have hKK : (K : Int) < ((K + 1 : Nat) : Int) := by omega
      have hKK2 : (K : Int) < (K : Int) + 1 := by omega
      clear hN cells
      refine wp_region_held_drew (S := (fun wx => wx.cell? ⟨w1.heap.size, 0, none⟩ = some (.slice (some ⟨g, 0, none⟩) (K + 1) n) ∧ wx.cell? ⟨w2.heap.size, 0, none⟩ = some (.int .i64 f) ∧ wx.cell? ⟨w2.heap.size, 1, none⟩ = some (.string s) ∧ wx.cell? ⟨w2.heap.size, 2, none⟩ = some (.slice ai xl ci))) (by kernel_rfl) ⟨o0, p0, p1, p2⟩ (fun hHeld => ?_)
      refine wpAnyH_take (i := 0) (v := ?v1) rfl (by kernel_rfl) (by kernel_rfl) (by kernel_rfl) (fun _ _ _ h => h) (Or.inl ⟨by rfl, ?y1⟩) (by assumption) ?r1
      case y1 => (intro w hSw; (try dsimp only at hSw); go_simp; try (with_reducible rfl))
      simp only [List.getElem_toArray, List.getElem_cons_zero, Act.put, List.setIfInBounds_toArray, List.set_cons_zero, List.set_cons_succ]
      refine wpAnyH_take (i := 1) (v := ?v2) rfl (by kernel_rfl) (by kernel_rfl) (by kernel_rfl) (fun _ _ _ h => h) (Or.inl ⟨by rfl, ?y2⟩) (by assumption) ?r2
      case y2 => (intro w hSw; (try dsimp only at hSw); go_simp; try (with_reducible rfl))
      simp only [List.getElem_toArray, List.getElem_cons_succ, List.getElem_cons_zero, Act.put, List.setIfInBounds_toArray, List.set_cons_zero, List.set_cons_succ]
      refine wpAnyH_take (i := 2) (v := ?v3) rfl (by kernel_rfl) (by kernel_rfl) (by kernel_rfl) (fun _ _ _ h => h) (Or.inl ⟨by rfl, ?y3⟩) (by assumption) ?r3
      case y3 => (intro w hSw; (try dsimp only at hSw); go_simp; try (with_reducible rfl))
      simp only [List.getElem_toArray, List.getElem_cons_succ, List.getElem_cons_zero, Act.put, List.setIfInBounds_toArray, List.set_cons_zero, List.set_cons_succ]
      refine wpAnyH_take (i := 3) (v := ?v4) rfl (by kernel_rfl) (by kernel_rfl) (by kernel_rfl) (fun _ _ _ h => h) (Or.inl ⟨by rfl, ?y4⟩) (by assumption) ?r4
      case y4 => (intro w hSw; (try dsimp only at hSw); go_simp; try (with_reducible rfl))
      simp only [List.getElem_toArray, List.getElem_cons_succ, List.getElem_cons_zero, Act.put, List.setIfInBounds_toArray, List.set_cons_zero, List.set_cons_succ]
      refine wpAnyH_take (i := 4) (v := ?v5) rfl (by kernel_rfl) (by kernel_rfl) (by kernel_rfl) (fun _ _ _ h => h) (Or.inl ⟨by rfl, ?y5⟩) (by assumption) ?r5
      case y5 => (intro w hSw; (try dsimp only at hSw); go_simp; try (with_reducible rfl))
      simp only [List.getElem_toArray, List.getElem_cons_succ, List.getElem_cons_zero, Act.put, List.setIfInBounds_toArray, List.set_cons_zero, List.set_cons_succ]
      refine wpAnyH_take (i := 5) (v := ?v6) rfl (by kernel_rfl) (by kernel_rfl) (by kernel_rfl) (fun _ _ _ h => h) (Or.inl ⟨by rfl, ?y6⟩) (by assumption) ?r6
      case y6 => (intro w hSw; (try dsimp only at hSw); go_simp; try (with_reducible rfl))
      simp only [List.getElem_toArray, List.getElem_cons_succ, List.getElem_cons_zero, Act.put, List.setIfInBounds_toArray, List.set_cons_zero, List.set_cons_succ]
      refine wpAnyH_take (i := 6) (v := ?v7) rfl (by kernel_rfl) (by kernel_rfl) (by kernel_rfl) (fun _ _ _ h => h) (Or.inl ⟨by rfl, ?y7⟩) (by assumption) ?r7
      case y7 => (intro w hSw; (try dsimp only at hSw); go_simp; try (with_reducible rfl))
      simp only [List.getElem_toArray, List.getElem_cons_succ, List.getElem_cons_zero, Act.put, List.setIfInBounds_toArray, List.set_cons_zero, List.set_cons_succ]
      refine wpAnyH_take (i := 7) (v := ?v8) rfl (by kernel_rfl) (by kernel_rfl) (by kernel_rfl) (fun _ _ _ h => h) (Or.inl ⟨by rfl, ?y8⟩) (by assumption) ?r8
      case y8 => (intro w hSw; (try dsimp only at hSw); go_simp; try (with_reducible rfl))
      simp only [List.getElem_toArray, List.getElem_cons_succ, List.getElem_cons_zero, Act.put, List.setIfInBounds_toArray, List.set_cons_zero, List.set_cons_succ]
      refine wpAnyH_take (i := 8) (v := ?v9) rfl (by kernel_rfl) (by kernel_rfl) (by kernel_rfl) (fun _ _ _ h => h) (Or.inl ⟨by rfl, ?y9⟩) (by assumption) ?r9
      case y9 => (intro w hSw; (try dsimp only at hSw); go_simp; try (with_reducible rfl))
      simp only [List.getElem_toArray, List.getElem_cons_succ, List.getElem_cons_zero, Act.put, List.setIfInBounds_toArray, List.set_cons_zero, List.set_cons_succ]
      refine wpAnyH_take (i := 9) (v := ?v10) rfl (by kernel_rfl) (by kernel_rfl) (by kernel_rfl) (fun _ _ _ h => h) (Or.inl ⟨by rfl, ?y10⟩) (by assumption) ?r10
      case y10 => (intro w hSw; (try dsimp only at hSw); go_simp; try (with_reducible rfl))
      simp only [List.getElem_toArray, List.getElem_cons_succ, List.getElem_cons_zero, Act.put, List.setIfInBounds_toArray, List.set_cons_zero, List.set_cons_succ]
      refine wpAnyH_take (i := 10) (v := ?v11) rfl (by kernel_rfl) (by kernel_rfl) (by kernel_rfl) (fun _ _ _ h => h) (Or.inl ⟨by rfl, ?y11⟩) (by assumption) ?r11
      case y11 => (intro w hSw; (try dsimp only at hSw); go_simp; try (with_reducible rfl))
      simp only [List.getElem_toArray, List.getElem_cons_succ, List.getElem_cons_zero, Act.put, List.setIfInBounds_toArray, List.set_cons_zero, List.set_cons_succ]
      refine wpAnyH_take (i := 11) (v := ?v12) rfl (by kernel_rfl) (by kernel_rfl) (by kernel_rfl) (fun _ _ _ h => h) (Or.inl ⟨by rfl, ?y12⟩) (by assumption) ?r12
      case y12 => (intro w hSw; (try dsimp only at hSw); go_simp; try (with_reducible rfl))
      simp only [List.getElem_toArray, List.getElem_cons_succ, List.getElem_cons_zero, Act.put, List.setIfInBounds_toArray, List.set_cons_zero, List.set_cons_succ]
      refine wpAnyH_ready (rs := [12]) (by kernel_rfl) (by simp) ?_
      refine AllReadyH.cons rfl (fun K hK => ?_) AllReadyH.nil
      simp only [List.getElem_toArray, List.getElem_cons_succ, List.getElem_cons_zero]
      go_simp
      go_at_call 49
      refine (CP.out _ (by first | exact (Below.refl _ _).drew | exact Below.refl _ _)).mono ?_
      rintro e w4 ⟨rfl, hb4, ⟨c6, c7⟩, ⟨c8, c9, c10⟩⟩
      dsimp only
      refine hK.out _ _ ?_ (fun hHeld => ?_)
      · exact ⟨c6, c8, c9, c10⟩
      clear hK K
      try simp only [Act.put, List.setIfInBounds_toArray, List.set_cons_zero, List.set_cons_succ]
      refine wpAnyH_take (i := 13) (v := ?v13) rfl (by kernel_rfl) (by kernel_rfl) (by kernel_rfl) (fun _ _ _ h => h) (Or.inl ⟨by rfl, ?y13⟩) (by assumption) ?r13
      case y13 => (intro w hSw; (try dsimp only at hSw); go_simp; try (with_reducible rfl))
      simp only [List.getElem_toArray, List.getElem_cons_succ, List.getElem_cons_zero, Act.put, List.setIfInBounds_toArray, List.set_cons_zero, List.set_cons_succ]
      refine wpAnyH_ready (rs := [14]) (by kernel_rfl) (by simp) ?_
      refine AllReadyH.cons rfl (fun K hK => ?_) AllReadyH.nil
      simp only [List.getElem_toArray, List.getElem_cons_succ, List.getElem_cons_zero]
      go_simp
      go_at_call 36
      refine (CW.out _ (by first | exact hb4 | exact hb4.drew)).mono ?_
      rintro e w5 ⟨a2, q2, rfl, ho2, ⟨u0, u1, u2, c0, c1, c2⟩, ⟨c3, c4, c5⟩, ⟨c11, c12⟩, c13, c14, c15⟩
      dsimp only
      refine hK.out _ _ ?_ (fun hHeld => ?_)
      · exact ⟨c11, c13, c14, c15⟩
      clear hK K
      try simp only [Act.put, List.setIfInBounds_toArray, List.set_cons_zero, List.set_cons_succ]
      refine wpAnyH_take (i := 15) (v := ?v14) rfl (by kernel_rfl) (by kernel_rfl) (by kernel_rfl) (fun _ _ _ h => h) (Or.inl ⟨by rfl, ?y14⟩) (by assumption) ?r14
      case y14 => (intro w hSw; (try dsimp only at hSw); go_simp; try (with_reducible rfl))
      simp only [List.getElem_toArray, List.getElem_cons_succ, List.getElem_cons_zero, Act.put, List.setIfInBounds_toArray, List.set_cons_zero, List.set_cons_succ]
      refine wpAnyH_ready (rs := [16]) (by kernel_rfl) (by simp) ?_
      refine AllReadyH.cons rfl (fun K' hK' => ?_) AllReadyH.nil
      simp only [List.getElem_toArray, List.getElem_cons_succ, List.getElem_cons_zero]
      obtain ⟨hps, hpg⟩ := PP.out _ _ _ ho2
      have HPS := hide hps
      have HPG := hide hpg
      clear hps hpg
      go_simp
      refine hK'.out _ _ ?_ (fun hHeld => ?_)
      · exact ⟨grown_cell HPG.out ⟨w1.heap.size, 0, none⟩ c11 (by simp; omega), grown_cell HPG.out ⟨w2.heap.size, 0, none⟩ c13 (by simp; omega), grown_cell HPG.out ⟨w2.heap.size, 1, none⟩ c14 (by simp; omega), grown_cell HPG.out ⟨w2.heap.size, 2, none⟩ c15 (by simp; omega)⟩
      clear hK' K'
      try simp only [Act.put, List.setIfInBounds_toArray, List.set_cons_zero, List.set_cons_succ]
      refine wpAnyH_done (by kernel_rfl) ?_ _
      have hta := HPS.out
      generalize hW5 : (((w5.setCell ⟨g, K * 3, none⟩ (.int .i64 f)).setCell ⟨g, K * 3 + 1, none⟩ (.string y)).setCell ⟨g, K * 3 + 2, none⟩ (.slice a2 N q2)) = W5 at hta ⊢
      clear hW5 HPS HPG c0 c1 c2 c3 c4 c5 c6 c7 c8 c9 c10 c11 c12 c13 c14 c15
      skip
      obtain ⟨u, hown⟩ := hta.own
      have hpc := cut_pcs (K := K) (p := ⟨f, y, ix y⟩) (u := u) HM.out (by rw [HN.out]; exact hKn)
      have hlen : L'.length = K + 1 := by rw [HL'.out]; simp; rw [HN.out]; omega
      have HLEN := hide hlen
      have HPC : Hid (pcs ((M.take (K + 1)).set K (⟨f, y, ix y⟩, u)) = L') := hide (by rw [hpc, HL'.out, HCP.out])
      have HTA := hide hta
      have HOW := hide hown
      try clear o0 o1 p0 p1 p2
      obtain ⟨z0, z1, z2, z3⟩ := blkp hta.res
      obtain ⟨o0, o1, _, _⟩ := blkp hta.out
      clear hta hown hpc hlen CP CW PP hHeld
      go_wp2
      refine bodyPost_ret (v := .tuple #[.agg #[.slice (some ⟨g, 0, none⟩) (K + 1) n, .int .i64 B], .bool true]) (by simp [results, Tryd.f16, go_sem, z0, z1]) rfl ⟨some ⟨g, 0, none⟩, n, by rw [HLEN.out, HB'.out], _, HPC.out, ?_, ?_⟩
      · rw [HLEN.out]
        have z : w.heap.size + 1 < w0.heap.size := hsz0
        exact ((HOW.out.setC ⟨w.heap.size + 1, 0, none⟩ _ z).setC ⟨w.heap.size + 1, 1, none⟩ _ z).base (by omega)
      · exact (HTA.out.bel.setCell (p := ⟨w.heap.size + 1, 0, none⟩) (Nat.le_succ _) _).setCell (p := ⟨w.heap.size + 1, 1, none⟩) (Nat.le_succ _) _
end Go.Proofs.YtbcljhafdpnjbabDoor.L6

namespace Go.Proofs.YtbcljhafdpnjbabDoor.L6
open Go.RowKit L1
set_option linter.unusedVariables false

theorem own_empty6 (w : World) (base : Nat) (hb : base ≤ w.heap.size) : (w.alloc (.cells #[] 3)).ownsRow base 3 1 (.slice (some ⟨w.heap.size, 0, none⟩) 0 0) 0 [] :=
  ⟨rfl, .inr ⟨w.heap.size, 0, #[], rfl, hb, by show (w.heap.push _)[w.heap.size]? = _; simp, Nat.le_refl _, by unfold maxLen; omega, rfl, rfl⟩⟩
theorem cell_three_new (w : World) (g : Nat) (hg : w.heap.size = g) (a b c : Value) (t : TypeId) : ∀ j u, [a, b, c][j]? = some u → (w.alloc (.cells #[a, b, c] t)).cell? ((⟨g, 0, none⟩ : Addr).add j) = some u := by
  subst hg
  intro j u h
  rw [addr_add]
  match j, h with
  | 0, h => simp at h; subst h; simp
  | 1, h => simp at h; subst h; simp
  | 2, h => simp at h; subst h; simp
  | j + 3, h => simp at h
theorem getD_app_lt (M : List PV) (q : PV) (i : Nat) (h : i < M.length) : (M ++ [q]).getD i eV = M.getD i eV := by simp [List.getD, List.getElem?_append_left h]
theorem getD_app_at (M : List PV) (q : PV) (n : Nat) (h : M.length = n) : (M ++ [q]).getD n eV = q := by subst h; simp [List.getD]
/-- One more piece. -/
theorem OwC.more {w w' : World} {base n : Nat} {v v' : Value} {M : List PV} {p : Pc} {u : Value} (h : OwC w base v n M) (hu : w.ownsRow base 3 1 u p.x.length (p.x.map (Value.int .i64)))
    (hnew : ∀ i, i < n → ∀ b, u.ownBlock = some b → (M.getD i eV).2.ownBlock ≠ some b) (hg : w.grownBy w' v.ownBlock) (hr : w'.ownsRow base 50 3 v' (n + 1) (flatC M ++ [.int .i64 p.f, .string p.s, u])) :
    OwC w' base v' (n + 1) (M ++ [(p, u)]) := by
  have hl := h.len
  have keep : ∀ {c m : Nat} {v2 : Value} {ys : List Value}, w.ownsRow base 3 c v2 m ys → w'.ownsRow base 3 c v2 m ys := fun hv =>
    own_keptC hv hg (fun b hb e => own_two h.row hv int_piece b e hb)
  refine ⟨by simp [hl], by rw [flatC_append]; exact hr, fun i hi => ?_, fun i j hij hj => ?_⟩
  · by_cases e : i = n
    · subst e
      rw [getD_app_at M _ _ hl]
      exact keep hu
    · rw [getD_app_lt M _ i (by omega)]
      exact keep (h.idx i (by omega))
  · intro b
    by_cases e : j = n
    · subst e
      rw [getD_app_at M _ _ hl, getD_app_lt M _ i (by omega)]
      intro h1 h2
      exact hnew i (by omega) b h2 h1
    · rw [getD_app_lt M _ i (by omega), getD_app_lt M _ j (by omega)]
      exact h.apart i j hij (by omega) b

set_option maxRecDepth 100000 in
set_option maxHeartbeats 4000000 in
theorem l6Own_any (a : Option Addr) (L : List Pc) (n cap : Nat) (B : Int) (w : World) (hn : L.length = n) (h20 : n ≤ 20) (hs : SlC w a L) (hX : ∀ i, i < n → (gc L i).x.length ≤ 60) :
    Calls Tryd.prog 40 #[.agg #[.slice a n cap, .int .i64 B]] w fun e w' => ∃ a' c', e = .returned (.agg #[.slice a' n c', .int .i64 B]) ∧ ∃ M, pcs M = L ∧ OwC w' w.heap.size (.slice a' n c') n M ∧ Below w.heap.size w w' := by
  obtain ⟨i0, hi, hz0, hz1, hz2⟩ := info_parts info_piece
  have HS := hide hs
  have HN := hide hn
  have HX := hide hX
  clear hs hn hX
  go_enter Tryd.func40, Tryd.ntmps40
  go_wp2
  go_loopw [12] (fun i wr => ∃ (k : Nat) (M : List PV) (a1 : Option Addr) (c1 : Nat), k ≤ n ∧ i = .int .i64 k ∧ Hid (OwC wr (w.heap.size + 3) (.slice a1 k c1) k M) ∧ Hid (pcs M = L.take k) ∧ Hid (wr.heap[w.heap.size + 2]? = some (.cells #[.slice a1 k c1, .int .i64 B] 25 (0, 0))) ∧ Hid (wr.heap[w.heap.size + 1]? = some (.cells #[.slice none 0 0, .int .i64 0] 25 (0, 0))) ∧ Below w.heap.size w wr) (fun i _ => n - (intOf i).toNat)
  case atStart =>
    obtain ⟨b3, b2, b1, bz⟩ := blk_three w (.cells #[.slice a n cap, .int .i64 B] 25 (0, 0)) (.cells #[.slice none 0 0, .int .i64 0] 25 (0, 0)) (.cells #[.slice none 0 0, .int .i64 B] 25 (0, 0))
    exact ⟨0, [], none, 0, Nat.zero_le _, rfl, ⟨rfl, World.ownsRow_nil _ _ _ _, fun i hi => absurd hi (Nat.not_lt_zero _), fun i j _ hj => absurd hj (Nat.not_lt_zero _)⟩, rfl, b3, b2, (((Below.refl _ _).alloc (Nat.le_refl _) _).alloc (by simp) _).alloc (by simp; omega) _⟩
  case round =>
    obtain ⟨k, M, a1, c1, hk, rfl, HO, HP, HB2, HB1, hbel⟩ := hrel
    by_cases hlt : k < n
    · obtain ⟨b, off, rfl, ai, ci, hat⟩ := HS.out.below hbel k (by rw [HN.out]; exact hlt)
      have hltI : (k : Int) < (n : Int) := by omega
      have hxl := HX.out k hlt
      have htk : L.take (k + 1) = L.take k ++ [gc L k] := by
        rw [List.take_succ_eq_append_getElem (show k < L.length by rw [HN.out]; exact hlt)]
        simp [gc, List.getD, List.getElem?_eq_getElem (show k < L.length by rw [HN.out]; exact hlt)]
      have d1 := hat.f
      have d2 := hat.s
      have d3 := hat.x
      have d4 := hat.l
      rw [show L.getD k eC = gc L k from rfl] at d1 d2 d3 d4
      obtain ⟨p, hp⟩ : ∃ p, p = gc L k := ⟨_, rfl⟩
      rw [← hp] at d1 d2 d3 d4 hxl htk
      obtain ⟨f, s, x⟩ := p
      simp only at d1 d2 d3 d4 hxl
      obtain ⟨m, hm⟩ : ∃ m, m = x.length := ⟨_, rfl⟩
      rw [← hm] at d3 hxl
      have hsz : w.heap.size + 3 ≤ wr.heap.size := (Array.getElem?_eq_some_iff.1 HB2.out).1
      have HD4 := hide d4
      have HMX := hide hm
      have HTK := hide htk
      have BB := hide hbel
      clear hat d4 hp hm htk hbel
      go_wp2_with (first
        | (at_builtin; refine wpList_append_copy rfl _ _ rfl (w.heap.size + 3) (some ⟨wr.heap.size + 1, 0, none⟩) ai 0 m ci x HMX.out.symm (by omega) rfl (by have := own_empty6 (wr.alloc (.cells #[.int .i64 f, .string s, .slice ai m ci] 50 (0, 0))) (w.heap.size + 3) (by simp; omega); rw [World.size_alloc] at this; exact this) rfl (HD4.out.below (((Below.refl _ _).alloc (Nat.le_refl _) _).alloc (by simp) _)) (by simp; omega) ?_)
        | go_in)
      intro a' c' w6 h6 g6 hat6
      have hal := ((Below.refl wr.heap.size wr).alloc (Nat.le_refl _) (.cells #[.int .i64 f, .string s, .slice ai m ci] 50 (0, 0))).alloc (by simp) (.cells #[] 3 (0, 0))
      have hgs := g6.size
      simp at hgs
      have hb6 : Below wr.heap.size wr w6 := ⟨g6.os.trans hal.os, g6.tape.trans hal.tape, g6.output.trans hal.output, by omega, fun q hq => (g6.block q (by simp; omega) (by simp [Value.ownBlock]; omega)).trans (hal.block q hq)⟩
      have GP : w6.heap[wr.heap.size]? = some (.cells #[.int .i64 f, .string s, .slice ai m ci] 50 (0, 0)) := (g6.block wr.heap.size (by simp; omega) (by simp [Value.ownBlock])).trans ((((Below.refl (wr.alloc (.cells #[.int .i64 f, .string s, .slice ai m ci] 50 (0, 0))).heap.size _).alloc (Nat.le_refl _) _).block wr.heap.size (by simp)).trans (blk_new _ _))
      obtain ⟨e0, e1, e2, e3, e4, e5⟩ := blk3 GP
      have hub : ∀ q, (Value.slice a' m c').ownBlock = some q → wr.heap.size + 1 ≤ q := fun q hq => by
        rcases hat6 with h | h
        · rw [h] at hq; simp [Value.ownBlock] at hq; omega
        · rw [h] at hq; simp at hq; omega
      -- the piece's own box is written into
      have g7 : w6.grownBy (w6.setCell ⟨wr.heap.size, 2, none⟩ (.slice a' m c')) (some wr.heap.size) := ⟨rfl, rfl, rfl, by simp, fun q hq hne => Below.heap_setCell _ _ _ _ (fun e => hne (by rw [e]))⟩
      have O6 := HO.out.below hb6
      have O7 : OwC (w6.setCell ⟨wr.heap.size, 2, none⟩ (.slice a' m c')) (w.heap.size + 3) (.slice a1 k c1) k M := by
        refine ⟨O6.len, own_keptC O6.row g7 (fun q hq e => ?_), fun i hi => own_keptC (O6.idx i hi) g7 (fun q hq e => ?_), O6.apart⟩
        · have := (own_ltC HO.out.row q hq).2
          cases e
          omega
        · have := (own_ltC (HO.out.idx i hi) q hq).2
          cases e
          omega
      have u7 : (w6.setCell ⟨wr.heap.size, 2, none⟩ (.slice a' m c')).ownsRow (w.heap.size + 3) 3 1 (.slice a' m c') m (x.map (Value.int .i64)) := own_keptC h6 g7 (fun q hq e => by
        have := hub q hq
        cases e
        omega)
      have GO6 : w6.heap[w.heap.size + 2]? = some (.cells #[.slice a1 k c1, .int .i64 B] 25 (0, 0)) := (hb6.block (w.heap.size + 2) (by omega)).trans HB2.out
      have GR6 : w6.heap[w.heap.size + 1]? = some (.cells #[.slice none 0 0, .int .i64 0] 25 (0, 0)) := (hb6.block (w.heap.size + 1) (by omega)).trans HB1.out
      have o1 : (w6.setCell ⟨wr.heap.size, 2, none⟩ (.slice a' m c')).cell? ⟨w.heap.size + 2, 0, none⟩ = some (.slice a1 k c1) := grown_cell g7 ⟨w.heap.size + 2, 0, none⟩ (blkp GO6).1 (by simp; omega)
      have HO7 := hide O7
      have HU7 := hide u7
      have HG7 := hide g7
      have HUB := hide hub
      have HGO := hide GO6
      have HGR := hide GR6
      have HB6 := hide hb6
      have hs6 : wr.heap.size + 2 ≤ w6.heap.size := by omega
      have HOL := hide HO.out.inC
      clear h6 g6 hat6 hal GP O6 O7 u7 g7 hub GO6 GR6 hb6 hgs
      go_wp2_with (first
        | (at_builtin; refine wpList_append_own_at _ rfl _ _ 23 rfl (w.heap.size + 3) 50 i0 (.agg #[.int .i64 0, .string ByteArray.empty, .slice none 0 0]) 3 48 Tryd.underlying23 hi hz0 hz1 hz2 rfl (by decide) _ _ _ rfl (HO7.out.row.alloc _) ⟨w6.heap.size, 0, none⟩ 1 1 [.int .i64 f, .string s, .slice a' m c'] rfl rfl (cell_three_new _ _ (by simp) _ _ _ _) (by intro u hu; simp at hu; rcases hu with rfl | rfl | rfl <;> rfl) (by unfold maxLen; omega) (by omega) (by simp; omega) ?_)
        | go_in)
      intro v8 w8 h8 g8 _ hat8
      have O8 : OwC w8 (w.heap.size + 3) v8 (k + 1) (M ++ [((⟨f, s, x⟩ : Pc), .slice a' m c')]) := by
        refine (HO7.out.below ((Below.refl _ _).alloc (Nat.le_refl _) _)).more (w' := w8) (by show World.ownsRow _ _ _ _ _ x.length _; rw [← HMX.out]; exact own_belowC HU7.out ((Below.refl _ _).alloc (Nat.le_refl _) _)) (fun i hi q hq e => ?_) g8 h8
        have h1 := HUB.out q hq
        have h2 := HOL.out.idx i hi q e
        omega
      have gsz := g8.size
      simp at gsz
      have nob : ∀ q, q < w.heap.size + 3 → some q ≠ (Value.slice a1 k c1).ownBlock := fun q hq e => by
        have := (own_ltC HO7.out.row q e.symm).1
        omega
      have blk : ∀ q, q < w.heap.size + 3 → w8.heap[q]? = w6.heap[q]? := fun q hq =>
        (g8.block q (by simp; omega) (nob q hq)).trans ((((Below.refl (w6.setCell ⟨wr.heap.size, 2, none⟩ (.slice a' m c')).heap.size _).alloc (Nat.le_refl _) _).block q (by simp; omega)).trans (Below.heap_setCell _ _ _ _ (show q ≠ wr.heap.size by omega)))
      have GO8 := (blk (w.heap.size + 2) (by omega)).trans HGO.out
      obtain ⟨y0, y1, y2, y3⟩ := blkp GO8
      have GR8 := (blk (w.heap.size + 1) (by omega)).trans HGR.out
      have B8 : Below w.heap.size w w8 := ⟨g8.os.trans (HB6.out.os.trans BB.out.os), g8.tape.trans (HB6.out.tape.trans BB.out.tape), g8.output.trans (HB6.out.output.trans BB.out.output), by have := BB.out.size; omega, fun q hq => (blk q (by omega)).trans ((HB6.out.block q (by omega)).trans (BB.out.block q hq))⟩
      obtain ⟨a8, c8, rfl, _⟩ := O8.form
      have R : ∃ (k' : Nat) (M' : List PV) (a1' : Option Addr) (c1' : Nat), k' ≤ n ∧ Value.int .i64 ((k : Int) + 1) = .int .i64 k' ∧ Hid (OwC (w8.setCell ⟨w.heap.size + 2, 0, none⟩ (.slice a8 (k + 1) c8)) (w.heap.size + 3) (.slice a1' k' c1') k' M') ∧ Hid (pcs M' = L.take k') ∧ Hid ((w8.setCell ⟨w.heap.size + 2, 0, none⟩ (.slice a8 (k + 1) c8)).heap[w.heap.size + 2]? = some (.cells #[.slice a1' k' c1', .int .i64 B] 25 (0, 0))) ∧ Hid ((w8.setCell ⟨w.heap.size + 2, 0, none⟩ (.slice a8 (k + 1) c8)).heap[w.heap.size + 1]? = some (.cells #[.slice none 0 0, .int .i64 0] 25 (0, 0))) ∧ Below w.heap.size w (w8.setCell ⟨w.heap.size + 2, 0, none⟩ (.slice a8 (k + 1) c8)) := by
        refine ⟨k + 1, _, a8, c8, by omega, by simp, O8.setC ⟨w.heap.size + 2, 0, none⟩ _ (Nat.lt_succ_self _), ?_, ?_, (Below.heap_setCell _ _ _ _ (show w.heap.size + 1 ≠ w.heap.size + 2 by omega)).trans GR8, B8.setCell (p := ⟨w.heap.size + 2, 0, none⟩) (by show w.heap.size ≤ w.heap.size + 2; omega) _⟩
        · show pcs (M ++ [_]) = _
          rw [HTK.out, ← HP.out]
          simp
        · show (w8.setCell ⟨w.heap.size + 2, 0, none⟩ (.slice a8 (k + 1) c8)).heap[w.heap.size + 2]? = _
          rw [setCell_eq_setRow w8 (w.heap.size + 2) 0 _ 25 (0, 0) _ GO8, setRow_heap w8 (w.heap.size + 2) _ _ 25 _ GO8]
          rfl
      have HRR := hide R
      clear R O8 gsz nob blk GO8 GR8 B8 h8 g8 hat8
      go_wp2
      go_roundw
      case rel => exact HRR.out
      case measure => simp [intOf]; omega
    · obtain rfl : k = n := by omega
      have hltI : ¬ (k : Int) < (k : Int) := by omega
      obtain ⟨z0, z1, z2, z3⟩ := blkp HB1.out
      obtain ⟨y0, y1, _, _⟩ := blkp HB2.out
      have HPL : Hid (pcs M = L) := by show pcs M = L; rw [HP.out]; exact List.take_of_length_le (by rw [HN.out]; exact Nat.le_refl _)
      have BB := hide hbel
      clear hbel
      go_wp2
      refine bodyPost_ret (v := .agg #[.slice a1 k c1, .int .i64 B]) (by simp [results, Tryd.f40, go_sem, z0, z1]) rfl ⟨_, _, rfl, M, HPL.out, ?_, ?_⟩
      · have z : w.heap.size + 1 < w.heap.size + 3 := by omega
        exact ((HO.out.setC ⟨_, _, none⟩ _ z).setC ⟨_, _, none⟩ _ z).base (by omega)
      · exact (BB.out.setCell (p := ⟨_, _, none⟩) (by show w.heap.size ≤ w.heap.size + 1; omega) _).setCell (p := ⟨_, _, none⟩) (by show w.heap.size ≤ w.heap.size + 1; omega) _
end Go.Proofs.YtbcljhafdpnjbabDoor.L6

namespace Go.Proofs.YtbcljhafdpnjbabDoor.L1
open Go.RowKit
set_option linter.unusedVariables false

theorem info_u8 : (Tryd.prog.info? 5).map (fun i => (i.zero, i.size, i.bytes)) = some (some (.int .u8 0), 1, 1) := by kernel_rfl

/-- A row of bytes that a call owns, as a text. -/
theorem conv_own {w : World} {base : Nat} {v : Value} {n : Nat} {l : List Int} (hown : w.ownsRow base 5 1 v n (l.map (Value.int .u8))) (hn : 0 < n) :
    (convert 22 9 v).run Tryd.prog w = .ok (.string (strOfNums l)) w := by
  have hlen := hown.1
  rcases hown.2 with ⟨_, h0⟩ | ⟨g, cap, cur, rfl, hb, hg, hle, hm, hs, ht⟩
  · omega
  · simp at hlen
    exact run_convert_bytes_arg w 22 5 Tryd.underlying22 Tryd.underlying5 g 0 n cap l hlen (fun i hi => by
      have := hown.cells (g := g) rfl i (.int .u8 (l.getD i 0)) (by
        rw [List.getElem?_map, List.getElem?_eq_getElem (by omega)]
        simp [List.getD, List.getElem?_eq_getElem (show i < l.length by omega)])
      rw [addr_add] at this
      simpa using this) 9 Tryd.underlying9
end Go.Proofs.YtbcljhafdpnjbabDoor.L1

namespace Go.Proofs.YtbcljhafdpnjbabDoor.L1
open Go.RowKit
set_option linter.unusedVariables false

set_option maxRecDepth 100000 in
set_option maxHeartbeats 400000 in
theorem l1Zig_any (n : Int) (w : World) (h1 : -1000000000000 ≤ n) (h2 : n ≤ 1000000000000) :
    Calls Tryd.prog 76 #[.int .i64 n] w fun e w' => e = .returned (.int .i64 (zig n)) ∧ w = w' := by
  unfold zig
  by_cases h : n < 0
  · rw [if_pos h]
    go_enter Tryd.func76, Tryd.ntmps76
    go_wp2
    go_ret
    exact ⟨rfl, rfl⟩
  · rw [if_neg h]
    go_enter Tryd.func76, Tryd.ntmps76
    go_wp2
    go_ret
    exact ⟨rfl, rfl⟩

set_option maxRecDepth 100000 in
set_option maxHeartbeats 1000000 in
theorem l1Varint_any (n : Int) (w : World) (h1 : -1000000000000 ≤ n) (h2 : n ≤ 1000000000000) :
    Calls Tryd.prog 65 #[.int .i64 n] w fun e w' => e = .returned (.string (strOfNums (vd (zig n)))) ∧ Below w.heap.size w w' := by
  have z0 := zig_lo n
  have z1 := zig_hi n h1 h2
  obtain ⟨i0, hi, hz0, hz1, hz2⟩ := info_parts info_u8
  go_enter Tryd.func65, Tryd.ntmps65
  go_wp2_with (go_at_call 76; refine (l1Zig_any _ _ h1 h2).mono ?_; rintro e w' ⟨rfl, rfl⟩)
  obtain ⟨Z, hZ⟩ : ∃ Z, Z = zig n := ⟨_, rfl⟩
  rw [← hZ] at z0 z1 ⊢
  have HZ := hide hZ
  clear hZ h1 h2
  go_loopw [3, 4] (fun z b wr => ∃ (f : Nat) (pre : List Int) (zk : Int), f ≤ 5 ∧ Hid (vd Z = pre ++ vdf f zk) ∧ 0 ≤ zk ∧ zk < wor (f + 1) ∧ zk ≤ 2000000000000 ∧ pre.length = 5 - f ∧ z = .int .i64 zk ∧
      wr.ownsRow w.heap.size 5 1 b pre.length (pre.map (Value.int .u8)) ∧ Below w.heap.size w wr) (fun z _ _ => (intOf z).toNat)
  case atStart => exact ⟨5, [], Z, by omega, rfl, z0, by simp [wor]; omega, z1, rfl, rfl, World.ownsRow_nil _ _ _ _, Below.refl _ _⟩
  case round =>
    obtain ⟨f, pre, zk, hf, HV, hz0', hz1', hz2', hpl, rfl, hown, hbel⟩ := hrel
    have HP := hide hpl
    have HW := hide hz1'
    have hpl5 : pre.length ≤ 5 := by omega
    clear hpl hz1'
    by_cases hlt : zk < 128
    · go_wp2_with (first
        | (at_builtin; refine wpList_append_own _ rfl _ _ 22 rfl w.heap.size 5 i0 (.int .u8 0) 1 1 Tryd.underlying22 hi hz0 hz1 hz2 rfl (by decide) _ _ _ rfl (hown.alloc _) ⟨wr.heap.size, 0, none⟩ 1 1 [.int .u8 zk] rfl rfl (cell_one_new _ _ _) (by intro u hu; simp at hu; subst hu; rfl) (by unfold maxLen; omega) (by omega) (by have := hbel.size; simp; omega) ?_)
        | go_in)
      · intro v' w1 hown' hgrow _
        have e : vd (zig n) = pre ++ [zk] := by
          rw [← HZ.out, HV.out]
          congr 1
          cases f with
          | zero => rfl
          | succ f => simp only [vdf]; rw [if_pos hlt]
        have hcv := conv_own (l := pre ++ [zk]) (v := v') (w := w1) (base := w.heap.size) (n := pre.length + 1) (by simpa using hown') (by omega)
        have hb1 : Below w.heap.size w w1 := (hbel.alloc hbel.size _).grown hgrow (by have := hbel.size; simp; omega) (fun k hk => (hown.lt k hk).1)
        have E := hide e
        clear e hown' hgrow hown
        go_wp2
        go_ret
        exact ⟨by rw [E.out]; rfl, hb1⟩
    · go_wp2_with (first
        | (at_builtin; refine wpList_append_own _ rfl _ _ 22 rfl w.heap.size 5 i0 (.int .u8 0) 1 1 Tryd.underlying22 hi hz0 hz1 hz2 rfl (by decide) _ _ _ rfl (hown.alloc _) ⟨wr.heap.size, 0, none⟩ 1 1 [.int .u8 (128 + zk % 128)] rfl rfl (cell_one_new _ _ _) (by intro u hu; simp at hu; subst hu; rfl) (by unfold maxLen; omega) (by omega) (by have := hbel.size; simp; omega) ?_)
        | go_in)
      · intro v' w1 hown' hgrow _
        have hb1 : Below w.heap.size w w1 := (hbel.alloc hbel.size _).grown hgrow (by have := hbel.size; simp; omega) (fun k hk => (hown.lt k hk).1)
        have hown2 : w1.ownsRow w.heap.size 5 1 v' (pre ++ [128 + zk % 128]).length ((pre ++ [128 + zk % 128]).map (Value.int .u8)) := by simpa using hown'
        obtain ⟨g, rfl⟩ : ∃ g, f = g + 1 := by
          cases f with
          | zero => have := HW.out; simp [wor] at this; omega
          | succ g => exact ⟨g, rfl⟩
        clear hown' hgrow hown
        go_wp2
        go_roundw
        case rel =>
          refine ⟨g, pre ++ [128 + zk % 128], zk / 128, by omega, ?_, by omega, ?_, by omega, ?_, rfl, hown2, hb1⟩
          · show vd Z = _
            rw [HV.out]
            simp only [vdf]
            rw [if_neg (by omega)]
            simp
          · have := HW.out
            have hw : wor (g + 1 + 1) = 128 * wor (g + 1) := rfl
            omega
          · have := HP.out
            simp
            omega
        case measure => simp [intOf]; omega
end Go.Proofs.YtbcljhafdpnjbabDoor.L1
