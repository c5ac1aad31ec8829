/-
  Contracts: impl.GoodLog, impl.EndOf.
  Contract: impl.digitsOf tells how many digits to 128 a number from 0 to 2000000000000 has, where the table of worths holds what its initialiser lays.
  Contract: impl.PutVarint makes the digits to 128 of a number's ZigZag, as a text, and true; outside -1000000000000..1000000000000 the empty text and false; memory that was there stays as it was.
  Contract: impl.AppendLog, where it answers none, and where the last piece has room.
  Contract: impl.AppendLog where the last piece has room.
  Contract: impl.AppendLog where no piece has room and none is left.
  Contract: spec.l6Own.
  Contract: impl.AppendLog where a piece more is put behind.
-/
import Derived.Test.YtapffbbmofhpoazDoorBundle5
import Derived.Test.YtapffbbmofhpoazDoorBundle3
import Derived.Test.YtapffbbmofhpoazDoorBundle4
import Derived.Deep.RegionWith
import Derived.Deep.RegionHeld3
import Derived.Deep.DeepCutAuto
import Derived.Deep.RegionLaw
import Derived.Deep.AppendLies
namespace Go.Proofs.YtapffbbmofhpoazDoor.L6
open Go.RowKit L1
set_option linter.unusedVariables false

theorem goodG_split (L : List Pc) (B : Int) (h1 : 1 ≤ L.length) (h20 : L.length ≤ 20) (hf0 : 0 ≤ (gc L 0).f) (hf1 : (gc L 0).f ≤ 100000) (hp : GoodPs L) :
    GoodG L B ↔ (gc L 0).f ≤ B ∧ B ≤ (gc L 0).f + (cnt (gc L 0).s : Int) ∧ lastEnd L L.length - (gc L 0).f ≤ 60 := by
  have he : atg L L.length = lastEnd L L.length := end_last h1 hp
  constructor
  · intro h
    exact ⟨h.b0, h.b1, by rw [← he]; exact h.few⟩
  · rintro ⟨a, b, c⟩
    exact ⟨h1, h20, hf0, hf1, hp, a, b, by rw [he]; exact c⟩
theorem logAt_of {w : World} {a : Option Addr} {L : List Pc} {n : Nat} (hn : L.length = n) (h1 : 1 ≤ n) (h20 : n ≤ 20) (hs : SlC w a L) (hf0 : 0 ≤ (gc L 0).f) (hf1 : (gc L 0).f ≤ 100000) (hp : GoodPs L) (ht : Tab w) : LogAt w a L n := by
  subst hn
  have hk := hp (L.length - 1) (by omega)
  have hb := atg_bd L (L.length - 1) (fun j hj => (hp j (by omega)).1)
  refine ⟨rfl, h1, h20, hs, ⟨hf0, hf1⟩, ?_, hk.1.1, ht⟩
  rw [hk.2.1]
  omega
theorem GoodG.logAt {w : World} {a : Option Addr} {L : List Pc} {B : Int} {n : Nat} (h : GoodG L B) (hn : L.length = n) (hs : SlC w a L) (ht : Tab w) : LogAt w a L n :=
  logAt_of hn (by rw [← hn]; exact h.one) (by rw [← hn]; exact h.many) hs h.f0 h.f1 h.ps ht
theorem bool_no {bb : Bool} {P : Prop} (h : bb = true ↔ P) (hn : ¬ P) : bb = false := by
  cases bb with
  | false => rfl
  | true => exact absurd (h.1 rfl) hn
theorem bool_yes {bb : Bool} {P : Prop} (h : bb = true ↔ P) (hn : P) : bb = true := h.2 hn

open Classical in
set_option maxRecDepth 100000 in
set_option maxHeartbeats 4000000 in
theorem goodLog_any (a : Option Addr) (L : List Pc) (n cap : Nat) (B : Int) (w : World) (hn : L.length = n) (hm : n ≤ 9223372036854775807) (hs : SlC w a L) (hst : TxC L) (ht : Tab w) (bb : Bool) (hbb : bb = true ↔ GoodG L B) :
    Calls Tryd.prog 11 #[.agg #[.slice a n cap, .int .i64 B]] w fun e w' => e = .returned (.bool bb) ∧ Below w.heap.size w w' := by
  by_cases h1 : (n : Int) < 1
  · obtain rfl := bool_no hbb (fun h => by have := h.one; omega)
    clear hbb hn hs hst ht
    go_enter Tryd.func11, Tryd.ntmps11
    go_wp2
    go_ret
    exact ⟨rfl, (Below.refl _ _).alloc (Nat.le_refl _) _⟩
  · by_cases h20 : (20 : Int) < (n : Int)
    · obtain rfl := bool_no hbb (fun h => by have := h.many; omega)
      clear hbb hn hs hst ht
      go_enter Tryd.func11, Tryd.ntmps11
      go_wp2
      go_ret
      exact ⟨rfl, (Below.refl _ _).alloc (Nat.le_refl _) _⟩
    · have hn1 : 1 ≤ n := by omega
      have hn0 : 0 < n := by omega
      have hn20 : n ≤ 20 := by omega
      have hsx := hst 0 (by rw [hn]; omega)
      obtain ⟨b, off, rfl, ai, ci, hat⟩ := hs 0 (by rw [hn]; omega)
      have hd1 := hat.f
      have hd2 := hat.s
      have hd3 := hat.x
      rw [Nat.zero_mul, Nat.add_zero] at hd1 hd2 hd3
      have hgf : (L.getD 0 eC) = gc L 0 := rfl
      rw [hgf] at hd1 hd2 hd3 hsx
      have e1 : ∀ ob, (w.alloc ob).cell? ⟨b, off, none⟩ = some (.int .i64 (gc L 0).f) := fun ob => Go.Lib.cell?_alloc_some ob hd1
      have e2 : ∀ ob, (w.alloc ob).cell? ⟨b, off + 1, none⟩ = some (.string (gc L 0).s) := fun ob => Go.Lib.cell?_alloc_some ob hd2
      have e3 : ∀ ob, (w.alloc ob).cell? ⟨b, off + 2, none⟩ = some (.slice ai (gc L 0).x.length ci) := fun ob => Go.Lib.cell?_alloc_some ob hd3
      have HS := hide hs
      have HN := hide hn
      have HST := hide hst
      have HT := hide ht
      have HBB := hide hbb
      obtain ⟨f, hf⟩ : ∃ f, f = (gc L 0).f := ⟨_, rfl⟩
      obtain ⟨s, hss⟩ : ∃ s, s = (gc L 0).s := ⟨_, rfl⟩
      obtain ⟨m, hmm⟩ : ∃ m, m = (gc L 0).x.length := ⟨_, rfl⟩
      rw [← hf] at e1
      rw [← hss] at e2
      rw [← hmm] at e3
      have HF := hide hf
      have HSS := hide hss
      clear hs hn hst ht hbb hat hd1 hd2 hd3 hgf hsx hf hss hmm
      by_cases hf0 : f < 0
      · obtain rfl := bool_no HBB.out (fun h => by have := h.f0; rw [← HF.out] at this; omega)
        go_enter Tryd.func11, Tryd.ntmps11
        go_wp2
        go_ret
        exact ⟨rfl, ((Below.refl _ _).alloc (Nat.le_refl _) _).alloc (by simp) _⟩
      · by_cases hf1 : (100000 : Int) < f
        · obtain rfl := bool_no HBB.out (fun h => by have := h.f1; rw [← HF.out] at this; omega)
          go_enter Tryd.func11, Tryd.ntmps11
          go_wp2
          go_ret
          exact ⟨rfl, ((Below.refl _ _).alloc (Nat.le_refl _) _).alloc (by simp) _⟩
        · obtain ⟨bk, hbk⟩ : ∃ bk : Bool, bk = true ↔ GoodPs L := ⟨decide (GoodPs L), by simp⟩
          have C1 := hide (fun wx (hb : Below w.heap.size w wx) => goodPieces_any (some ⟨b, off, none⟩) L n cap wx HN.out hn1 hn20 (HS.out.below hb) HST.out (by rw [← HF.out]; omega) (by rw [← HF.out]; omega) (HT.out.below hb) bk hbk)
          cases bk with
          | false =>
            obtain rfl := bool_no HBB.out (fun h => absurd (hbk.2 h.ps) (by simp))
            clear hbk
            go_enter Tryd.func11, Tryd.ntmps11
            go_wp2_with fail
            refine (C1.out _ (((Below.refl _ _).alloc (Nat.le_refl _) _).alloc (by simp) _)).mono ?_
            rintro e w1 ⟨rfl, hb1⟩
            have B1 := hide ((((Below.refl w.heap.size w).alloc (Nat.le_refl _) (.cells #[.slice (some ⟨b, off, none⟩) n cap, .int .i64 B] 29 (0, 0))).alloc (by simp) (.cells #[.int .i64 f, .string s, .slice ai m ci] 51 (0, 0))).trans (hb1.mono (by simp; omega)))
            clear hb1
            go_wp2
            go_ret
            exact ⟨rfl, B1.out⟩
          | true =>
            have hps := hbk.1 rfl
            have hsp := goodG_split L B (by rw [HN.out]; exact hn1) (by rw [HN.out]; exact hn20) (by rw [← HF.out]; omega) (by rw [← HF.out]; omega) hps
            rw [HN.out, ← HF.out, ← HSS.out] at hsp
            have hla : LogAt w (some ⟨b, off, none⟩) L n := logAt_of HN.out hn1 hn20 HS.out (by rw [← HF.out]; omega) (by rw [← HF.out]; omega) hps HT.out
            have hs60 : s.size ≤ 60 := by rw [HSS.out]; exact (hps 0 (by rw [HN.out]; omega)).1.1
            have C2 := hide (fun wx (hb : Below w.heap.size w wx) => endOfPiece_any f s ai m ci wx (by omega) (by omega) (by omega) (HT.out.below hb))
            have C3 := hide (fun wx (hb : Below w.heap.size w wx) => recordsIn_any (some ⟨b, off, none⟩) L n cap B wx (hla.below hb))
            rw [← HF.out] at C3
            have hcl := cnt_le s
            obtain ⟨E, hE⟩ : ∃ E, E = lastEnd L n - f := ⟨_, rfl⟩
            obtain ⟨N, hN⟩ : ∃ N, N = f + (cnt s : Int) := ⟨_, rfl⟩
            rw [← hE] at hsp C3
            rw [← hN] at hsp C2
            have HSP := hide hsp
            clear hbk hps hsp hla hE hN hcl
            go_enter Tryd.func11, Tryd.ntmps11
            go_wp2_with fail
            refine (C1.out _ (((Below.refl _ _).alloc (Nat.le_refl _) _).alloc (by simp) _)).mono ?_
            rintro e w1 ⟨rfl, hb1⟩
            have B1 := hide ((((Below.refl w.heap.size w).alloc (Nat.le_refl _) (.cells #[.slice (some ⟨b, off, none⟩) n cap, .int .i64 B] 29 (0, 0))).alloc (by simp) (.cells #[.int .i64 f, .string s, .slice ai m ci] 51 (0, 0))).trans (hb1.mono (by simp; omega)))
            have G0 : w1.heap[w.heap.size]? = some (.cells #[.slice (some ⟨b, off, none⟩) n cap, .int .i64 B] 29 (0, 0)) := (hb1.block w.heap.size (by simp; omega)).trans ((((Below.refl (w.alloc (.cells #[.slice (some ⟨b, off, none⟩) n cap, .int .i64 B] 29 (0, 0))).heap.size _).alloc (Nat.le_refl _) _).block w.heap.size (by simp)).trans (blk_new _ _))
            have G1 : w1.heap[w.heap.size + 1]? = some (.cells #[.int .i64 f, .string s, .slice ai m ci] 51 (0, 0)) := (hb1.block (w.heap.size + 1) (by simp)).trans (by have := blk_new (w.alloc (.cells #[.slice (some ⟨b, off, none⟩) n cap, .int .i64 B] 29 (0, 0))) (.cells #[.int .i64 f, .string s, .slice ai m ci] 51 (0, 0)); rw [World.size_alloc] at this; exact this)
            obtain ⟨k0, k1⟩ := blk2 G0
            obtain ⟨c0, c1, c2, _, _, _⟩ := blk3 G1
            clear hb1 G0 G1
            by_cases hB0 : f ≤ B
            · by_cases hB1 : B ≤ N
              · have hE2 : bb = decide (E ≤ 60) := by
                  have h1 := HBB.out
                  rw [HSP.out] at h1
                  cases bb with
                  | true => exact (decide_eq_true (h1.1 rfl).2.2).symm
                  | false =>
                    refine (decide_eq_false (fun h => ?_)).symm
                    exact absurd (h1.2 ⟨hB0, hB1, h⟩) (by simp)
                subst hE2
                go_wp2
                go_region_held3 (fun wx => (wx.cell? ⟨w.heap.size, 0, none⟩ = some (.slice (some ⟨b, off, none⟩) n cap) ∧ wx.cell? ⟨w.heap.size, 1, none⟩ = some (.int .i64 B) ∧ wx.cell? ⟨w.heap.size + 1, 0, none⟩ = some (.int .i64 f) ∧ wx.cell? ⟨w.heap.size + 1, 1, none⟩ = some (.string s) ∧ wx.cell? ⟨w.heap.size + 1, 2, none⟩ = some (.slice ai m ci)) ∧ Below w1.heap.size w1 wx) (first | exact ⟨⟨k0, k1, c0, c1, c2⟩, (Below.refl _ _).drew⟩ | exact keep5 (by assumption) (by assumption) (Nat.le_refl _)) (first | (go_at_call 31; refine (C2.out _ (B1.out.trans ((by first | exact And.right (by assumption) | exact (Below.refl _ _).drew | exact Below.refl _ _ : Below w1.heap.size w1 _).mono B1.out.size))).mono ?_; rintro e w2 ⟨rfl, hb⟩) | (go_at_call 32; refine (C3.out _ (B1.out.trans ((by first | exact And.right (by assumption) | exact (Below.refl _ _).drew | exact Below.refl _ _ : Below w1.heap.size w1 _).mono B1.out.size))).mono ?_; rintro e w2 ⟨rfl, hb⟩))
                rename_i hHeld
                have B2 := hide (B1.out.trans (hHeld.2.mono B1.out.size))
                clear hHeld
                go_wp2
                go_ret
                exact ⟨rfl, B2.out⟩
              · obtain rfl := bool_no HBB.out (fun h => hB1 (HSP.out.1 h).2.1)
                have C4 := hide (fun wx (hb : Below w1.heap.size w1 wx) => (C2.out wx (B1.out.trans (hb.mono B1.out.size))).mono (R' := fun e w2 => e = .returned (.int .i64 N) ∧ Below w1.heap.size w1 w2 ∧ w2.cell? ⟨w.heap.size, 0, none⟩ = some (.slice (some ⟨b, off, none⟩) n cap) ∧ w2.cell? ⟨w.heap.size, 1, none⟩ = some (.int .i64 B) ∧ w2.cell? ⟨w.heap.size + 1, 0, none⟩ = some (.int .i64 f) ∧ w2.cell? ⟨w.heap.size + 1, 1, none⟩ = some (.string s) ∧ w2.cell? ⟨w.heap.size + 1, 2, none⟩ = some (.slice ai m ci)) (by
                  rintro e w2 ⟨rfl, hb2⟩
                  have h3 := hb.trans (hb2.mono hb.size)
                  obtain ⟨⟨j0, j1, j2, j3, j4⟩, _⟩ := keep5 (wa := w1) (wb := w2) (W := w1) (N := w1.heap.size) ⟨⟨k0, k1, c0, c1, c2⟩, Below.refl _ _⟩ h3 (Nat.le_refl _)
                  exact ⟨rfl, h3, j0, j1, j2, j3, j4⟩))
                go_wp2
                go_region_with (go_at_call 31; refine (C4.out _ ?_).mono ?_; (first | exact Below.refl _ _ | exact (Below.refl _ _).drew | exact ((Below.refl _ _).drew).drew); rintro e w2 ⟨rfl, hb2, d0, d1, d2, d3, d4⟩)
                all_goals (have B2 := hide (B1.out.trans (hb2.mono B1.out.size)); clear hb2; go_wp2; go_ret; exact ⟨rfl, B2.out⟩)
            · obtain rfl := bool_no HBB.out (fun h => hB0 (HSP.out.1 h).1)
              go_wp2
              have hB2 : decide (f ≤ B) = false := decide_eq_false (by omega)
              refine wp_region_held_drew (S := fun wx => (wx.cell? ⟨w.heap.size, 0, none⟩ = some (.slice (some ⟨b, off, none⟩) n cap) ∧ wx.cell? ⟨w.heap.size, 1, none⟩ = some (.int .i64 B) ∧ wx.cell? ⟨w.heap.size + 1, 0, none⟩ = some (.int .i64 f) ∧ wx.cell? ⟨w.heap.size + 1, 1, none⟩ = some (.string s) ∧ wx.cell? ⟨w.heap.size + 1, 2, none⟩ = some (.slice ai m ci)) ∧ Below w1.heap.size w1 wx) (by kernel_rfl) ⟨⟨k0, k1, c0, c1, c2⟩, (Below.refl _ _).drew⟩ (fun hHeld => ?_)
              refine wpAnyH_take (i := 0) (v := ?v1) rfl (by kernel_rfl) (by kernel_rfl) (by kernel_rfl) (fun _ _ _ h => h) (Or.inl ⟨by rfl, ?y1⟩) (by assumption) ?r1
              case y1 => (intro w hSw; (try dsimp only at hSw); go_simp; try (with_reducible rfl))
              simp only [List.getElem_toArray, List.getElem_cons_zero, Act.put, List.setIfInBounds_toArray, List.set_cons_zero, List.set_cons_succ]
              refine wpAnyH_take (i := 1) (v := ?v2) rfl (by kernel_rfl) (by kernel_rfl) (by kernel_rfl) (fun _ _ _ h => h) (Or.inl ⟨by rfl, ?y2⟩) (by assumption) ?r2
              case y2 => (intro w hSw; (try dsimp only at hSw); go_simp; try (with_reducible rfl))
              simp only [List.getElem_toArray, List.getElem_cons_succ, List.getElem_cons_zero, Act.put, List.setIfInBounds_toArray, List.set_cons_zero, List.set_cons_succ]
              refine wpAnyH_take (i := 2) (v := ?v3) rfl (by kernel_rfl) (by kernel_rfl) (by kernel_rfl) (fun _ _ _ h => h) (Or.inl ⟨by rfl, ?y3⟩) (by assumption) ?r3
              case y3 => (intro w hSw; (try dsimp only at hSw); go_simp; try (with_reducible rfl))
              simp only [List.getElem_toArray, List.getElem_cons_succ, List.getElem_cons_zero, Act.put, List.setIfInBounds_toArray, List.set_cons_zero, List.set_cons_succ]
              refine wpAnyH_take (i := 3) (v := ?v4) rfl (by kernel_rfl) (by kernel_rfl) (by kernel_rfl) (fun _ _ _ h => h) (Or.inl ⟨by rfl, ?y4⟩) (by assumption) ?r4
              case y4 => (intro w hSw; (try dsimp only at hSw); go_simp; try (with_reducible rfl))
              simp only [List.getElem_toArray, List.getElem_cons_succ, List.getElem_cons_zero, Act.put, List.setIfInBounds_toArray, List.set_cons_zero, List.set_cons_succ]
              refine wpAnyH_take (i := 4) (v := ?v5) rfl (by kernel_rfl) (by kernel_rfl) (by kernel_rfl) (fun _ _ _ h => h) (Or.inl ⟨by rfl, ?y5⟩) (by assumption) ?r5
              case y5 => (intro w hSw; (try dsimp only at hSw); go_simp; try (with_reducible rfl))
              simp only [List.getElem_toArray, List.getElem_cons_succ, List.getElem_cons_zero, Act.put, List.setIfInBounds_toArray, List.set_cons_zero, List.set_cons_succ]
              try simp only [hB2]
              refine wpAnyH_take (i := 5) (v := ?v6) rfl (by kernel_rfl) (by kernel_rfl) (by kernel_rfl) (fun _ _ _ h => h) (Or.inl ⟨by rfl, ?y6⟩) (by assumption) ?r6
              case y6 => (intro w hSw; (try dsimp only at hSw); go_simp; try (with_reducible rfl))
              simp only [List.getElem_toArray, List.getElem_cons_succ, List.getElem_cons_zero, Act.put, List.setIfInBounds_toArray, List.set_cons_zero, List.set_cons_succ]
              refine wpAnyH_take (i := 6) (v := undef) rfl (by kernel_rfl) (by kernel_rfl) (by kernel_rfl) (fun _ _ _ h => h) (Or.inr ⟨by rfl, rfl⟩) (by assumption) ?_
              simp only [List.getElem_toArray, List.getElem_cons_succ, List.getElem_cons_zero, Act.put, List.setIfInBounds_toArray, List.set_cons_zero, List.set_cons_succ]
              refine wpAnyH_take (i := 7) (v := undef) rfl (by kernel_rfl) (by kernel_rfl) (by kernel_rfl) (fun _ _ _ h => h) (Or.inr ⟨by rfl, rfl⟩) (by assumption) ?_
              simp only [List.getElem_toArray, List.getElem_cons_succ, List.getElem_cons_zero, Act.put, List.setIfInBounds_toArray, List.set_cons_zero, List.set_cons_succ]
              refine wpAnyH_take (i := 8) (v := undef) rfl (by kernel_rfl) (by kernel_rfl) (by kernel_rfl) (fun _ _ _ h => h) (Or.inr ⟨by rfl, rfl⟩) (by assumption) ?_
              simp only [List.getElem_toArray, List.getElem_cons_succ, List.getElem_cons_zero, Act.put, List.setIfInBounds_toArray, List.set_cons_zero, List.set_cons_succ]
              refine wpAnyH_take (i := 9) (v := undef) rfl (by kernel_rfl) (by kernel_rfl) (by kernel_rfl) (fun _ _ _ h => h) (Or.inr ⟨by rfl, rfl⟩) (by assumption) ?_
              simp only [List.getElem_toArray, List.getElem_cons_succ, List.getElem_cons_zero, Act.put, List.setIfInBounds_toArray, List.set_cons_zero, List.set_cons_succ]
              refine wpAnyH_take (i := 10) (v := undef) rfl (by kernel_rfl) (by kernel_rfl) (by kernel_rfl) (fun _ _ _ h => h) (Or.inr ⟨by rfl, rfl⟩) (by assumption) ?_
              simp only [List.getElem_toArray, List.getElem_cons_succ, List.getElem_cons_zero, Act.put, List.setIfInBounds_toArray, List.set_cons_zero, List.set_cons_succ]
              refine wpAnyH_take (i := 11) (v := ?v12) rfl (by kernel_rfl) (by kernel_rfl) (by kernel_rfl) (fun _ _ _ h => h) (Or.inl ⟨by rfl, ?y12⟩) (by assumption) ?r12
              case y12 => (intro w hSw; (try dsimp only at hSw); go_simp; try (with_reducible rfl))
              simp only [List.getElem_toArray, List.getElem_cons_succ, List.getElem_cons_zero, Act.put, List.setIfInBounds_toArray, List.set_cons_zero, List.set_cons_succ]
              refine wpAnyH_take (i := 12) (v := ?v13) rfl (by kernel_rfl) (by kernel_rfl) (by kernel_rfl) (fun _ _ _ h => h) (Or.inl ⟨by rfl, ?y13⟩) (by assumption) ?r13
              case y13 => (intro w hSw; (try dsimp only at hSw); go_simp; try (with_reducible rfl))
              simp only [List.getElem_toArray, List.getElem_cons_succ, List.getElem_cons_zero, Act.put, List.setIfInBounds_toArray, List.set_cons_zero, List.set_cons_succ]
              refine wpAnyH_take (i := 13) (v := undef) rfl (by kernel_rfl) (by kernel_rfl) (by kernel_rfl) (fun _ _ _ h => h) (Or.inr ⟨by rfl, rfl⟩) (by assumption) ?_
              simp only [List.getElem_toArray, List.getElem_cons_succ, List.getElem_cons_zero, Act.put, List.setIfInBounds_toArray, List.set_cons_zero, List.set_cons_succ]
              refine wpAnyH_take (i := 14) (v := undef) rfl (by kernel_rfl) (by kernel_rfl) (by kernel_rfl) (fun _ _ _ h => h) (Or.inr ⟨by rfl, rfl⟩) (by assumption) ?_
              simp only [List.getElem_toArray, List.getElem_cons_succ, List.getElem_cons_zero, Act.put, List.setIfInBounds_toArray, List.set_cons_zero, List.set_cons_succ]
              refine wpAnyH_take (i := 15) (v := undef) rfl (by kernel_rfl) (by kernel_rfl) (by kernel_rfl) (fun _ _ _ h => h) (Or.inr ⟨by rfl, rfl⟩) (by assumption) ?_
              simp only [List.getElem_toArray, List.getElem_cons_succ, List.getElem_cons_zero, Act.put, List.setIfInBounds_toArray, List.set_cons_zero, List.set_cons_succ]
              refine wpAnyH_take (i := 16) (v := ?v17) rfl (by kernel_rfl) (by kernel_rfl) (by kernel_rfl) (fun _ _ _ h => h) (Or.inl ⟨by rfl, ?y17⟩) (by assumption) ?r17
              case y17 => (intro w hSw; (try dsimp only at hSw); go_simp; try (with_reducible rfl))
              simp only [List.getElem_toArray, List.getElem_cons_succ, List.getElem_cons_zero, Act.put, List.setIfInBounds_toArray, List.set_cons_zero, List.set_cons_succ]
              refine wpAnyH_take (i := 17) (v := ?v18) rfl (by kernel_rfl) (by kernel_rfl) (by kernel_rfl) (fun _ _ _ h => h) (Or.inl ⟨by rfl, ?y18⟩) (by assumption) ?r18
              case y18 => (intro w hSw; (try dsimp only at hSw); go_simp; try (with_reducible rfl))
              simp only [List.getElem_toArray, List.getElem_cons_succ, List.getElem_cons_zero, Act.put, List.setIfInBounds_toArray, List.set_cons_zero, List.set_cons_succ]
              refine wpAnyH_done (by kernel_rfl) ?_ _
              have B2 := hide (B1.out.trans (hHeld.2.mono B1.out.size))
              clear hHeld
              go_wp2
              go_ret
              exact ⟨rfl, B2.out⟩
end Go.Proofs.YtapffbbmofhpoazDoor.L6

namespace Go.Proofs.YtapffbbmofhpoazDoor.L1
open Go.RowKit
set_option linter.unusedVariables false

set_option maxRecDepth 100000 in
set_option maxHeartbeats 400000 in
theorem digitsOf_any (z : Int) (w : World) (h0 : 0 ≤ z) (h1 : z ≤ 2000000000000) (ht : Tab w) :
    Calls Tryd.prog 60 #[.int .i64 z] w fun e w' => e = .returned (.int .i64 ((vd z).length : Nat)) ∧ w = w' := by
  have hpos := vdf_pos 5 z
  have hle := vdf_le 5 z
  have hlen := vdf_len 5 z
  change 1 ≤ (vd z).length at hpos
  change (vd z).length ≤ 6 at hle
  change ∀ k : Nat, 0 ≤ z → 1 ≤ k → (k < (vd z).length ↔ k ≤ 5 ∧ wor k ≤ z) at hlen
  have HL := hide hlen
  have HT := hide ht
  clear hlen ht
  generalize (vd z).length = m at *
  go_enter Tryd.func60, Tryd.ntmps60
  go_wp2
  go_loop [3] (fun i => ∃ k : Nat, 1 ≤ k ∧ k ≤ m ∧ i = .int .i64 k) (fun i => 6 - (intOf i).toNat)
  case atStart => exact ⟨1, by omega, by omega, rfl⟩
  case round =>
    obtain ⟨k, hk1, hk2, rfl⟩ := hrel
    by_cases hlt : k < m
    · have h := (unhide HL k h0 hk1).1 hlt
      have hc := unhide HT k (by omega)
      have h6 : (k : Int) < 6 := by omega
      have hw := h.2
      clear h
      go_wp2
      go_round
      case rel => exact ⟨k + 1, by omega, by omega, by go_num⟩
      case measure => simp [intOf]; omega
    · obtain rfl : k = m := by omega
      by_cases h6 : (k : Int) < 6
      · have hc := unhide HT k (by omega)
        have hw : ¬ wor k ≤ z := fun h => by have := (unhide HL k h0 hk1).2 ⟨by omega, h⟩; omega
        go_wp2
        go_ret
        exact ⟨rfl, rfl⟩
      · go_wp2
        go_ret
        exact ⟨rfl, rfl⟩
end Go.Proofs.YtapffbbmofhpoazDoor.L1

namespace Go.Proofs.YtapffbbmofhpoazDoor.L1
open Go.RowKit
set_option linter.unusedVariables false

set_option maxRecDepth 100000 in
set_option maxHeartbeats 400000 in
theorem zigZag_yes (n : Int) (w : World) (h1 : -1000000000000 ≤ n) (h2 : n ≤ 1000000000000) :
    Calls Tryd.prog 59 #[.int .i64 n] w fun e w' => e = .returned (.tuple #[.int .i64 (zig n), .bool true]) ∧ w = w' := by
  unfold zig
  by_cases h : n < 0
  · rw [if_pos h]
    go_enter Tryd.func59, Tryd.ntmps59
    go_wp2
    go_ret2
    exact ⟨rfl, rfl⟩
  · rw [if_neg h]
    go_enter Tryd.func59, Tryd.ntmps59
    go_wp2
    go_ret2
    exact ⟨rfl, rfl⟩
set_option maxRecDepth 100000 in
set_option maxHeartbeats 400000 in
theorem zigZag_no (n : Int) (w : World) (h : ¬ (-1000000000000 ≤ n ∧ n ≤ 1000000000000)) :
    Calls Tryd.prog 59 #[.int .i64 n] w fun e w' => e = .returned (.tuple #[.int .i64 0, .bool false]) ∧ w = w' := by
  by_cases h1 : -1000000000000 ≤ n
  · have h2 : ¬ n ≤ 1000000000000 := fun h2 => h ⟨h1, h2⟩
    clear h
    go_enter Tryd.func59, Tryd.ntmps59
    go_wp2
    go_ret2
    exact ⟨rfl, rfl⟩
  · clear h
    go_enter Tryd.func59, Tryd.ntmps59
    go_wp2
    go_ret2
    exact ⟨rfl, rfl⟩

set_option maxRecDepth 100000 in
set_option maxHeartbeats 400000 in
theorem putVarint_no (n : Int) (w : World) (h : ¬ (-1000000000000 ≤ n ∧ n ≤ 1000000000000)) :
    Calls Tryd.prog 36 #[.int .i64 n] w fun e w' => e = .returned (.tuple #[.string ⟨#[]⟩, .bool false]) ∧ w = w' := by
  have zc := fun w => zigZag_no n w h
  have ZC := hide zc
  clear zc h
  go_enter Tryd.func36, Tryd.ntmps36
  go_wp2_with (go_at_call 59; refine (unhide ZC _).mono ?_; rintro e w' ⟨rfl, rfl⟩)
  go_ret2
  exact ⟨rfl, rfl⟩

theorem vd_get (z : Int) (k : Nat) (h0 : 0 ≤ z) (h1 : z ≤ 2000000000000) (hk : k < (vd z).length) :
    (vd z).getD k 0 = z / wor k % 128 + (if k + 1 < (vd z).length then 128 else 0) :=
  vdf_get 5 z k h0 (by simp [wor]; omega) hk

theorem made_row (n : Nat) : (madeCells (Value.int .u8 0).cells (n * 1)).toList = (List.replicate n (0 : Int)).map (Value.int .u8) := by
  rw [Nat.mul_one]
  show (madeCells #[Value.int .u8 0] n).toList = _
  rw [toList_madeCells_one]
  simp

/-- One round: the next digit is laid at its place. -/
theorem put_round {w wr : World} {Z d : Int} {m k : Nat} {xs : List Int} (hlt : k < m) (hl : xs.length = m) (hd : (vd Z).getD k 0 = d) (HX : ∀ j, j < k → xs.getD j 0 = (vd Z).getD j 0)
    (hown : wr.ownsRow w.heap.size 5 1 (.slice (some ⟨w.heap.size, 0, none⟩) m m) m (xs.map (Value.int .u8))) (hb : Below w.heap.size w wr) (HT : Tab wr) (ht : 0 < w.heap.size) :
    ∃ (k' : Nat) (xs' : List Int), k' ≤ m ∧ Value.int .i64 ((k : Int) + 1) = .int .i64 k' ∧ xs'.length = m ∧ Hid (∀ j, j < k' → xs'.getD j 0 = (vd Z).getD j 0) ∧
      (wr.setCell ⟨w.heap.size, k, none⟩ (.int .u8 d)).ownsRow w.heap.size 5 1 (.slice (some ⟨w.heap.size, 0, none⟩) m m) m (xs'.map (Value.int .u8)) ∧ Below w.heap.size w (wr.setCell ⟨w.heap.size, k, none⟩ (.int .u8 d)) ∧ Hid (Tab (wr.setCell ⟨w.heap.size, k, none⟩ (.int .u8 d))) := by
  have hst := hown.stored k (.int .u8 d)
  have hb2 := hb.setCell (p := ⟨w.heap.size, k, none⟩) (Nat.le_refl _) (.int .u8 d)
  refine ⟨k + 1, xs.set k d, by omega, by simp, by simpa using hl, ?_, by rw [List.map_set]; exact hst.1, hb2, ?_⟩
  · intro j hj
    by_cases e : j = k
    · subst e
      rw [hd]
      simp [List.getD, hl, hlt]
    · rw [← HX j (by omega)]
      simp [List.getD, Ne.symm e]
  · intro j hj
    have := HT j hj
    rw [← this]
    exact World.cell?_of_block (Below.heap_setCell _ _ _ _ (by simp; omega))

set_option maxRecDepth 100000 in
set_option maxHeartbeats 1000000 in
theorem putVarint_yes (n : Int) (w : World) (h1 : -1000000000000 ≤ n) (h2 : n ≤ 1000000000000) (ht : Tab w) :
    Calls Tryd.prog 36 #[.int .i64 n] w fun e w' => e = .returned (.tuple #[.string (strOfNums (vd (zig n))), .bool true]) ∧ Below w.heap.size w w' := by
  have z0 := zig_lo n
  have z1 := zig_hi n h1 h2
  obtain ⟨i0, hi, hz0, hz1, hz2⟩ := info_parts info_u8
  have hm6 : (vd (zig n)).length ≤ 6 := vdf_le 5 (zig n)
  have hm1 : 1 ≤ (vd (zig n)).length := vdf_pos 5 (zig n)
  obtain ⟨w1, hmk, hown1, hg1⟩ := run_make_full (P := Tryd.prog) w w.heap.size 77 5 i0 (.int .u8 0) 1 Tryd.underlying77 hi hz0 hz1 .i64 .i64 (vd (zig n)).length (by rw [hz2]; omega) (by unfold maxLen; omega) (Nat.le_refl _)
  rw [made_row] at hown1
  have hb1 : Below w.heap.size w w1 := (Below.refl _ _).grown hg1 (Nat.le_refl _) (fun k hk => by cases hk)
  have HT1 := hide (ht.below hb1)
  have hgl : 0 < w.heap.size := block_lt (ht 0 (by omega))
  have HO := hide hown1
  clear hown1 hg1
  obtain ⟨Z, hZ⟩ : ∃ Z, Z = zig n := ⟨_, rfl⟩
  have zc := fun w => zigZag_yes n w h1 h2
  have dc := digitsOf_any (zig n) w z0 z1 ht
  rw [← hZ] at z0 z1 zc dc hm6 hm1 hmk HO ⊢
  have HZ := hide hZ
  obtain ⟨m, hm⟩ : ∃ m, m = (vd Z).length := ⟨_, rfl⟩
  rw [← hm] at hm6 hm1 hmk HO dc
  have HM := hide hm
  have ZC := hide zc
  have DC := hide dc
  clear hZ hm h1 h2 ht zc dc
  go_enter Tryd.func36, Tryd.ntmps36
  go_wp2_with (first | (go_at_call 59; refine (unhide ZC _).mono ?_; rintro e w' ⟨rfl, rfl⟩) | (go_at_call 60; refine (unhide DC).mono ?_; rintro e w' ⟨rfl, rfl⟩))
  go_loopw [25] (fun i wr => ∃ (k : Nat) (xs : List Int), k ≤ m ∧ i = .int .i64 k ∧ xs.length = m ∧ Hid (∀ j, j < k → xs.getD j 0 = (vd Z).getD j 0) ∧
      wr.ownsRow w.heap.size 5 1 (.slice (some ⟨w.heap.size, 0, none⟩) m m) m (xs.map (Value.int .u8)) ∧ Below w.heap.size w wr ∧ Hid (Tab wr)) (fun i _ => m - (intOf i).toNat)
  case atStart => exact ⟨0, List.replicate m 0, Nat.zero_le _, rfl, by simp, fun j hj => absurd hj (Nat.not_lt_zero _), HO, hb1, HT1⟩
  case round =>
    obtain ⟨k, xs, hk, rfl, hxl, HX, hown, hbel, HT⟩ := hrel
    have HL := hide hxl
    clear hxl
    by_cases hlt : k < m
    · have hc := unhide HT k (by omega)
      have hw1 := wor_pos k
      have hg := vd_get Z k z0 z1 (by rw [← HM.out]; exact hlt)
      rw [← HM.out] at hg
      have hcl := hown.cellAt k (by omega)
      have hfr := hown.frozenAt k
      have hst := hown.stored k (.int .u8 ((vd Z).getD k 0))
      have hltI : (k : Int) < (m : Int) := by omega
      have hqn : 0 ≤ Z / wor k := Int.ediv_nonneg z0 (by omega)
      have hqm : Z / wor k ≤ 2000000000000 := Int.le_trans (Int.ediv_le_self _ z0) z1
      have hq : 0 ≤ Z / wor k % 128 ∧ Z / wor k % 128 < 128 := ⟨by omega, by omega⟩
      obtain ⟨hq0, hq1⟩ := hq
      have HG := hide hg
      have HS := hide hst
      have hcl2 : ∃ v, wr.cell? ⟨w.heap.size, k, none⟩ = some v := ⟨_, hcl.trans (List.getElem?_eq_getElem (by have := HL.out; simp; omega))⟩
      obtain ⟨v, hv⟩ := hcl2
      clear hcl hg hst
      by_cases hl : k + 1 < m
      · have hlI : (k : Int) < (m : Int) - 1 := by omega
        go_wp2
        go_roundw
        case rel => exact put_round hlt HL.out (by rw [HG.out]; rw [if_pos hl]) HX.out hown hbel HT.out hgl
        case measure => simp [intOf]; omega
      · have hlI : ¬ (k : Int) < (m : Int) - 1 := by omega
        go_wp2
        go_roundw
        case rel => exact put_round hlt HL.out (by rw [HG.out]; rw [if_neg hl]; simp) HX.out hown hbel HT.out hgl
        case measure => simp [intOf]; omega
    · obtain rfl : k = m := by omega
      have hxs : xs = vd Z := by
        apply List.ext_getElem?
        intro j
        by_cases hj : j < k
        · have h := HX.out j hj
          have hl1 := HL.out
          have hl2 := HM.out
          simp only [List.getD, List.getElem?_eq_getElem (show j < xs.length by omega), List.getElem?_eq_getElem (show j < (vd Z).length by omega), Option.getD_some] at h
          rw [List.getElem?_eq_getElem (show j < xs.length by omega), List.getElem?_eq_getElem (show j < (vd Z).length by omega), h]
        · have hl1 := HL.out
          have hl2 := HM.out
          rw [List.getElem?_eq_none (by omega), List.getElem?_eq_none (by omega)]
      have hcv := conv_own hown (by omega)
      rw [hxs] at hcv
      clear hown hxs
      go_wp2
      go_ret2
      exact ⟨rfl, hbel⟩
end Go.Proofs.YtapffbbmofhpoazDoor.L1

namespace Go.Proofs.YtapffbbmofhpoazDoor.L6
open Go.RowKit L1
set_option linter.unusedVariables false

theorem blk_second (w : World) (x y : Obj) : ((w.alloc x).alloc y).heap[w.heap.size + 1]? = some y := by
  have := blk_new (w.alloc x) y
  rw [World.size_alloc] at this
  exact this
theorem blk_first (w : World) (x y : Obj) : ((w.alloc x).alloc y).heap[w.heap.size]? = some x :=
  (((Below.refl (w.alloc x).heap.size _).alloc (Nat.le_refl _) _).block w.heap.size (by simp)).trans (blk_new _ _)
theorem own_nilA (w : World) (base : Nat) : OwC w base (.slice none 0 0) 0 [] := ⟨rfl, World.ownsRow_nil _ _ _ _, fun i hi => absurd hi (Nat.not_lt_zero _), fun i j _ hj => absurd hj (Nat.not_lt_zero _)⟩
theorem retL_none {w w' : World} (hb : Below w.heap.size w w') : RetL w [] 0 false (.returned (.tuple #[.agg #[.slice none 0 0, .int .i64 0], .bool false])) w' := ⟨_, _, rfl, [], rfl, own_nilA _ _, hb⟩

open Classical in
set_option maxRecDepth 100000 in
set_option maxHeartbeats 4000000 in
theorem implAppend_no (a : Option Addr) (L : List Pc) (n cap : Nat) (B : Int) (r : ByteArray) (w : World) (hn : L.length = n) (hm : n ≤ 9223372036854775807) (hs : SlC w a L) (hst : TxC L) (ht : Tab w) (hno : ¬ AppPre L B r) :
    Calls Tryd.prog 14 #[.agg #[.slice a n cap, .int .i64 B], .string r] w (RetL w [] 0 false) := by
  obtain ⟨bk, hbk⟩ : ∃ bk : Bool, bk = true ↔ GoodG L B := ⟨decide (GoodG L B), by simp⟩
  have C1 := hide (fun wx (hb : Below w.heap.size w wx) => goodLog_any a L n cap B wx hn hm (hs.below hb) hst (ht.below hb) bk hbk)
  cases bk with
  | false =>
    clear hs hn hst hbk ht hno
    go_enter Tryd.func14, Tryd.ntmps14
    go_wp2_with fail
    refine (C1.out _ (((Below.refl _ _).alloc (Nat.le_refl _) _).alloc (by simp) _)).mono ?_
    rintro e w1 ⟨rfl, hb1⟩
    obtain ⟨z0, z1, z2, z3⟩ := blkp ((hb1.block (w.heap.size + 1) (by simp)).trans (blk_second w _ _))
    have B1 := hide ((((Below.refl w.heap.size w).alloc (Nat.le_refl _) (.cells #[.slice a n cap, .int .i64 B] 29 (0, 0))).alloc (by simp) (.cells #[.slice none 0 0, .int .i64 0] 29 (0, 0))).trans (hb1.mono (by simp; omega)))
    clear hb1
    go_wp2
    refine bodyPost_ret (v := .tuple #[.agg #[.slice none 0 0, .int .i64 0], .bool false]) (by simp [results, Tryd.f14, go_sem, z0, z1]) rfl (retL_none ((B1.out.setCell (p := ⟨_, _, none⟩) (Nat.le_succ _) _).setCell (p := ⟨_, _, none⟩) (Nat.le_succ _) _))
  | true =>
    have hg := hbk.1 rfl
    have hla := hg.logAt hn hs ht
    have C2 := hide (fun wx (hb : Below w.heap.size w wx) => recordsIn_any a L n cap B wx (hla.below hb))
    by_cases hr : (20 : Int) < (r.size : Int)
    · clear hs hn hst hbk ht hno hg hla C2
      go_enter Tryd.func14, Tryd.ntmps14
      go_wp2_with fail
      refine (C1.out _ (((Below.refl _ _).alloc (Nat.le_refl _) _).alloc (by simp) _)).mono ?_
      rintro e w1 ⟨rfl, hb1⟩
      obtain ⟨z0, z1, z2, z3⟩ := blkp ((hb1.block (w.heap.size + 1) (by simp)).trans (blk_second w _ _))
      have B1 := hide ((((Below.refl w.heap.size w).alloc (Nat.le_refl _) (.cells #[.slice a n cap, .int .i64 B] 29 (0, 0))).alloc (by simp) (.cells #[.slice none 0 0, .int .i64 0] 29 (0, 0))).trans (hb1.mono (by simp; omega)))
      clear hb1
      go_wp2
      refine bodyPost_ret (v := .tuple #[.agg #[.slice none 0 0, .int .i64 0], .bool false]) (by simp [results, Tryd.f14, go_sem, z0, z1]) rfl (retL_none ((B1.out.setCell (p := ⟨_, _, none⟩) (Nat.le_succ _) _).setCell (p := ⟨_, _, none⟩) (Nat.le_succ _) _))
    · have h60 : lastEnd L n - (gc L 0).f = 60 := Classical.byContradiction fun h => hno ⟨hg, by omega, by rw [hn]; exact h⟩
      rw [h60] at C2
      clear hs hn hst hbk ht hno hg hla h60
      go_enter Tryd.func14, Tryd.ntmps14
      go_wp2_with fail
      refine (C1.out _ (((Below.refl _ _).alloc (Nat.le_refl _) _).alloc (by simp) _)).mono ?_
      rintro e w1 ⟨rfl, hb1⟩
      have G1 : Hid (w1.heap[w.heap.size + 1]? = some (.cells #[.slice none 0 0, .int .i64 0] 29 (0, 0))) := (hb1.block (w.heap.size + 1) (by simp)).trans (blk_second w _ _)
      obtain ⟨k0, k1, _, _⟩ := blkp ((hb1.block w.heap.size (by simp only [World.size_alloc]; omega)).trans (blk_first w _ _))
      have B1 := hide ((((Below.refl w.heap.size w).alloc (Nat.le_refl _) (.cells #[.slice a n cap, .int .i64 B] 29 (0, 0))).alloc (by simp) (.cells #[.slice none 0 0, .int .i64 0] 29 (0, 0))).trans (hb1.mono (by simp; omega)))
      clear hb1
      go_wp2_with fail
      refine (C2.out _ B1.out).mono ?_
      rintro e w2 ⟨rfl, hb2⟩
      obtain ⟨z0, z1, z2, z3⟩ := blkp ((hb2.block (w.heap.size + 1) (Array.getElem?_eq_some_iff.1 G1.out).1).trans G1.out)
      have B2 := hide (B1.out.trans (hb2.mono B1.out.size))
      clear hb2
      go_wp2
      refine bodyPost_ret (v := .tuple #[.agg #[.slice none 0 0, .int .i64 0], .bool false]) (by simp [results, Tryd.f14, go_sem, z0, z1]) rfl (retL_none ((B2.out.setCell (p := ⟨_, _, none⟩) (Nat.le_succ _) _).setCell (p := ⟨_, _, none⟩) (Nat.le_succ _) _))
end Go.Proofs.YtapffbbmofhpoazDoor.L6

namespace Go.Proofs.YtapffbbmofhpoazDoor.L6
open Go.RowKit L1
set_option linter.unusedVariables false

/-- The copy with its last piece written over. -/
structure PutAt (w : World) (base go g n m : Nat) (B : Int) (M : List PV) (p : Pc) (wx : World) : Prop where
  own : ∃ u, OwC wx base (.slice (some ⟨g, 0, none⟩) n n) n (M.set m (p, u))
  bel : Below w.heap.size w wx
  res : wx.heap[w.heap.size + 1]? = some (.cells #[.slice none 0 0, .int .i64 0] 29 (0, 0))
  out : wx.heap[go]? = some (.cells #[.slice (some ⟨g, 0, none⟩) n n, .int .i64 B] 29 (0, 0))

open Classical in
set_option maxRecDepth 100000 in
set_option maxHeartbeats 4000000 in
theorem implAppend_yes (a : Option Addr) (L : List Pc) (n cap : Nat) (B : Int) (r : ByteArray) (w : World) (hn : L.length = n) (hm : n ≤ 9223372036854775807) (hs : SlC w a L) (hst : TxC L) (ht : Tab w) (hp : AppPre L B r) (hf : AppFits L r) :
    Calls Tryd.prog 14 #[.agg #[.slice a n cap, .int .i64 B], .string r] w (RetL w (L.set (L.length - 1) (appP (endP L) r)) B true) := by
  obtain ⟨L', hL'⟩ : ∃ L', L' = L.set (L.length - 1) (appP (endP L) r) := ⟨_, rfl⟩
  rw [← hL']
  have HL' := hide hL'
  clear hL'
  have hg := hp.1
  have hr20 := hp.2.1
  have h60 := hp.2.2
  rw [hn] at h60
  have C1 := hide (fun wx (hb : Below w.heap.size w wx) => goodLog_any a L n cap B wx hn hm (hs.below hb) hst (ht.below hb) true (by simp; exact hg))
  have hla := hg.logAt hn hs ht
  have C2 := hide (fun wx (hb : Below w.heap.size w wx) => recordsIn_any a L n cap B wx (hla.below hb))
  have hn1 : 1 ≤ n := hla.one
  have hn20 : n ≤ 20 := hla.few
  have hsm : ∀ i, i < n → (gc L i).x.length ≤ 60 := fun i hi => by
    have hgd := (hg.ps i (by omega)).1
    rw [hgd.2.2]
    exact ix_len60 hgd.1
  have C3 := hide (fun wx (hb : Below w.heap.size w wx) => putVarint_yes (r.size : Int) wx (by omega) (by omega) (ht.below hb))
  have C4 := hide (fun wx (hb : Below w.heap.size w wx) => copyLog_any a L n cap B wx hn hn1 hn20 (hs.below hb) hsm)
  obtain ⟨E0, hE0⟩ : ∃ E0, E0 = lastEnd L n - (gc L 0).f := ⟨_, rfl⟩
  rw [← hE0] at C2 h60
  have hE6 : (E0 == 60) = false := by simp only [beq_eq_false_iff_ne]; exact h60
  have hr20' : ¬ (20 : Int) < (r.size : Int) := by omega
  obtain ⟨P, hP⟩ : ∃ P, P = strOfNums (vd (zig (r.size : Int))) := ⟨_, rfl⟩
  rw [← hP] at C3
  obtain ⟨R, hR⟩ : ∃ R, R = rec r := ⟨_, rfl⟩
  have hPr : P ++ r = R := by rw [hR, hP]; rfl
  have hRs : R.size = 1 + r.size := by rw [hR]; exact rec_size r hr20
  have hPs : P.size + r.size = R.size := by rw [← hPr, ByteArray.size_append]
  have qa : ∀ w : World, (Op.stringOp .add P r).run Tryd.prog w = .ok (.string R) w := fun w => by rw [← hPr]; exact run_string_add_sum w _ _ (by omega)
  have HS := hide hs
  have HN := hide hn
  have HG := hide hg
  have HT := hide ht
  have HF := hide hf
  have HRR := hide hR
  clear hs hn hg hst ht hp hf hla hsm hE0 hP hR hPr
  go_enter Tryd.func14, Tryd.ntmps14
  go_wp2_with fail
  refine (C1.out _ (((Below.refl _ _).alloc (Nat.le_refl _) _).alloc (by simp) _)).mono ?_
  rintro e v1 ⟨rfl, hb1⟩
  have G1 : Hid (v1.heap[w.heap.size + 1]? = some (.cells #[.slice none 0 0, .int .i64 0] 29 (0, 0))) := (hb1.block (w.heap.size + 1) (by simp)).trans (blk_second w _ _)
  have H1 : Hid (v1.heap[w.heap.size]? = some (.cells #[.slice a n cap, .int .i64 B] 29 (0, 0))) := (hb1.block w.heap.size (by simp only [World.size_alloc]; omega)).trans (blk_first w _ _)
  obtain ⟨k0, k1, _, _⟩ := blkp H1.out
  have B1 := hide ((((Below.refl w.heap.size w).alloc (Nat.le_refl _) (.cells #[.slice a n cap, .int .i64 B] 29 (0, 0))).alloc (by simp) (.cells #[.slice none 0 0, .int .i64 0] 29 (0, 0))).trans (hb1.mono (by simp; omega)))
  clear hb1
  go_wp2_with fail
  refine (C2.out _ B1.out).mono ?_
  rintro e v2 ⟨rfl, hb2⟩
  have B2 := hide (B1.out.trans (hb2.mono B1.out.size))
  have hs1 : w.heap.size + 1 < v1.heap.size := (Array.getElem?_eq_some_iff.1 G1.out).1
  have hs2 := hb2.size
  have G2 : Hid (v2.heap[w.heap.size + 1]? = some (.cells #[.slice none 0 0, .int .i64 0] 29 (0, 0))) := (hb2.block _ hs1).trans G1.out
  have H2 : Hid (v2.heap[w.heap.size]? = some (.cells #[.slice a n cap, .int .i64 B] 29 (0, 0))) := (hb2.block _ (by omega)).trans H1.out
  clear k0 k1 hb2
  go_wp2_with fail
  refine (C3.out _ B2.out).mono ?_
  rintro e w0 ⟨rfl, hb3⟩
  have B3 := hide (B2.out.trans (hb3.mono B2.out.size))
  have hs3 := hb3.size
  have G3 : Hid (w0.heap[w.heap.size + 1]? = some (.cells #[.slice none 0 0, .int .i64 0] 29 (0, 0))) := (hb3.block _ (by omega)).trans G2.out
  have H3 : Hid (w0.heap[w.heap.size]? = some (.cells #[.slice a n cap, .int .i64 B] 29 (0, 0))) := (hb3.block _ (by omega)).trans H2.out
  obtain ⟨k0, k1, _, _⟩ := blkp H3.out
  clear hb3
  go_wp2_with fail
  refine (C4.out _ B3.out).mono ?_
  rintro e w1 ⟨g, M, rfl, hM, ho, hb4⟩
  have B4 := hide (B3.out.trans (hb4.mono B3.out.size))
  have hs4 := hb4.size
  have G4 : Hid (w1.heap[w.heap.size + 1]? = some (.cells #[.slice none 0 0, .int .i64 0] 29 (0, 0))) := (hb4.block _ (by omega)).trans G3.out
  have hgb := own_ltC ho.row g rfl
  have hml := ho.len
  obtain ⟨m, hm'⟩ : ∃ m, m = n - 1 := ⟨_, rfl⟩
  have hnm : (n : Int) - 1 = (m : Int) := by omega
  have hmn : (m : Int) < (n : Int) := by omega
  have hm0 : (0 : Int) ≤ (m : Int) := by omega
  have hmN : m < n := by omega
  obtain ⟨f1, f2, f3⟩ := flatC_get M m (by omega)
  have hp1 : (M.getD m eV).1 = gc L m := by
    have := pcs_get M m (by omega)
    rw [hM] at this
    exact this.symm
  rw [hp1] at f1 f2
  have hfl : (flatC M).length = n * 3 := by rw [flatC_len, hml]
  have d1 := (ho.row.cellAt (m * 3) (by omega)).trans f1
  have d2 := (ho.row.cellAt (m * 3 + 1) (by omega)).trans f2
  have hlp : endP L = gc L m := by show gc L (L.length - 1) = _; rw [HN.out, hm']
  have hgp := (HG.out.ps m (by rw [HN.out]; exact hmN)).1
  have hfit := HF.out
  unfold AppFits at hfit
  rw [hlp] at hfit
  have hwy := appP_whole hgp hr20
  obtain ⟨p, hp⟩ : ∃ p, p = gc L m := ⟨_, rfl⟩
  rw [← hp] at d1 d2 hlp hgp hfit hwy
  obtain ⟨f, s, x⟩ := p
  simp only at d1 d2 hfit hwy
  rw [← HRR.out] at hwy
  obtain ⟨Y, hY⟩ : ∃ Y, Y = s ++ R := ⟨_, rfl⟩
  rw [← hY] at hwy
  have hYs : Y.size = s.size + R.size := by rw [hY, ByteArray.size_append]
  have q2 : ∀ w : World, (Op.stringOp .add s R).run Tryd.prog w = .ok (.string Y) w := fun w => by rw [hY]; exact run_string_add_sum w _ _ (by omega)
  have hY60 : (Y.size : Int) ≤ 60 := by omega
  generalize hW : w1.alloc (.cells #[.slice (some ⟨g, 0, none⟩) n n, .int .i64 B] 29 (0, 0)) = W
  have BW : Below w1.heap.size w1 W := by rw [← hW]; exact (Below.refl _ _).alloc (Nat.le_refl _) _
  have GO : Hid (W.heap[w1.heap.size]? = some (.cells #[.slice (some ⟨g, 0, none⟩) n n, .int .i64 B] 29 (0, 0))) := by show _ = _; rw [← hW]; exact blk_new _ _
  obtain ⟨o0, o1, o2, o3⟩ := blkp GO.out
  have G5 : Hid (W.heap[w.heap.size + 1]? = some (.cells #[.slice none 0 0, .int .i64 0] 29 (0, 0))) := (BW.block _ (by omega)).trans G4.out
  have e1 := (BW.cell (p := ⟨g, m * 3, none⟩) (blk_lt d1)).trans d1
  have e2 := (BW.cell (p := ⟨g, m * 3 + 1, none⟩) (blk_lt d2)).trans d2
  have B5 := hide (B4.out.trans (BW.mono B4.out.size))
  have HO5 := hide (ho.below BW)
  have HM := hide hM
  have HLP := hide hlp
  have HYY := hide hY
  have HWY := hide hwy
  have hwW : w1.heap.size < W.heap.size := (Array.getElem?_eq_some_iff.1 GO.out).1
  obtain ⟨z0, z1, z2, z3⟩ := blkp G5.out
  have HW := hide hW
  clear hW BW ho hM hlp hp1 f1 f2 f3 hfl hgp hwy hY hfit hb4 hm' hml hp d1 d2 k0 k1
  go_upto_region 9 with (first | (rw [HW.out]) | fail)
  first | rw [HW.out] | skip
  obtain ⟨N, hN⟩ : ∃ N, N = (ix Y).length := ⟨_, rfl⟩
  have C6 := hide (fun wx (hb : Below W.heap.size W wx) => (wholePiece_any f Y wx (by omega) (HT.out.below (B5.out.trans (hb.mono B5.out.size)))).mono (R' := fun e w2 => ∃ a2 q2, e = .returned (.agg #[.int .i64 f, .string Y, .slice a2 N q2]) ∧ (w2.ownsRow W.heap.size 3 1 (.slice a2 N q2) N ((ix Y).map (Value.int .i64)) ∧ Below W.heap.size W w2) ∧ (∃ u0 u1 u2, w2.cell? ⟨g, m * 3, none⟩ = some u0 ∧ w2.cell? ⟨g, m * 3 + 1, none⟩ = some u1 ∧ w2.cell? ⟨g, m * 3 + 2, none⟩ = some u2) ∧ (w2.frozen? ⟨g, m * 3, none⟩ = false ∧ w2.frozen? ⟨g, m * 3 + 1, none⟩ = false ∧ w2.frozen? ⟨g, m * 3 + 2, none⟩ = false) ∧ (w2.cell? ⟨w1.heap.size, 0, none⟩ = some (.slice (some ⟨g, 0, none⟩) n n) ∧ w2.cell? ⟨w1.heap.size, 1, none⟩ = some (.int .i64 B))) (by
    rintro e w2 ⟨v2, rfl, ho2, hb2⟩
    have hb3 := hb.trans (hb2.mono hb.size)
    rw [← hN] at ho2
    obtain ⟨a2, q2, rfl, _, _⟩ := own_form ho2
    rw [HWY.out.1]
    have R := (HO5.out.below hb3).row
    have hfl : (flatC M).length = n * 3 := by rw [flatC_len, HO5.out.len]
    refine ⟨a2, q2, rfl, ⟨own_baseC ho2 hb.size, hb3⟩, ⟨_, _, _, (R.cellAt (m * 3) (by omega)).trans (List.getElem?_eq_getElem (by omega)), (R.cellAt (m * 3 + 1) (by omega)).trans (List.getElem?_eq_getElem (by omega)), (R.cellAt (m * 3 + 2) (by omega)).trans (List.getElem?_eq_getElem (by omega))⟩, ⟨R.frozenAt _, R.frozenAt _, R.frozenAt _⟩, ?_⟩
    obtain ⟨o0, o1, _, _⟩ := blkp ((hb3.block w1.heap.size (Array.getElem?_eq_some_iff.1 GO.out).1).trans GO.out)
    exact ⟨o0, o1⟩))
  have HNN := hide hN
  have hw0W : w0.heap.size ≤ W.heap.size := by omega
  have PP : Hid (∀ w2 a2 q2, (w2.ownsRow W.heap.size 3 1 (.slice a2 N q2) N ((ix Y).map (Value.int .i64)) ∧ Below W.heap.size W w2) → PutAt w w0.heap.size w1.heap.size g n m B M ⟨f, Y, ix Y⟩ (((w2.setCell ⟨g, m * 3, none⟩ (.int .i64 f)).setCell ⟨g, m * 3 + 1, none⟩ (.string Y)).setCell ⟨g, m * 3 + 2, none⟩ (.slice a2 N q2))) := by
    intro w2 a2 q2 h
    have P := (HO5.out.below h.2).put m hmN ⟨f, Y, ix Y⟩ (.slice a2 N q2) (by show w2.ownsRow _ _ _ _ (ix Y).length _; rw [← HNN.out]; exact own_baseC h.1 hw0W) (fun i hi _ bb hbb e => by
      have h1 := (own_ltC h.1 bb hbb).1
      have h2 := (own_ltC (HO5.out.idx i hi) bb e).2
      omega)
    have hs9 := h.2.size
    exact ⟨⟨_, P.1⟩, (B5.out.trans (h.2.mono B5.out.size)).grown P.2 (Nat.le_trans B5.out.size hs9) (fun q hq => by cases hq; omega), (P.2.block (w.heap.size + 1) (by omega) (by simp; omega)).trans ((h.2.block _ (by omega)).trans G5.out), (P.2.block w1.heap.size (by omega) (by simp; omega)).trans ((h.2.block _ (by omega)).trans GO.out)⟩
  clear hN C1 C2 C3 C4
  go_cut [10] (fun t wx => t = .int .i64 m ∧ PutAt w w0.heap.size w1.heap.size g n m B M ⟨f, Y, ix Y⟩ wx)
  case first =>
    go_region_with (go_at_call 38; refine (C6.out _ ?_).mono ?_; (first | exact Below.refl _ _ | exact (Below.refl _ _).drew | exact ((Below.refl _ _).drew).drew); rintro e w2 ⟨a2, q2, rfl, ho2, ⟨u0, u1, u2, c0, c1, c2⟩, ⟨c3, c4, c5⟩, c6, c7⟩)
    all_goals (
      go_wp2_with fail
      go_meet
      case rel => exact ⟨rfl, PP.out _ _ _ ho2⟩)
  case rest =>
    obtain ⟨rfl, hta⟩ := hcut
    obtain ⟨u, hown⟩ := hta.own
    have hlen2 : (L.set m ⟨f, Y, ix Y⟩).length = n := by simpa using HN.out
    have hpc : pcs (M.set m (⟨f, Y, ix Y⟩, u)) = L.set m ⟨f, Y, ix Y⟩ := by rw [← HM.out]; show List.map _ _ = _; rw [List.map_set]
    have hnm1 : n - 1 = m := by omega
    have hL2 : L' = L.set m ⟨f, Y, ix Y⟩ := by
      rw [HL'.out, HN.out, hnm1]
      unfold appP
      rw [HLP.out, HYY.out, HRR.out]
    have HL2 := hide hL2
    have HLN := hide hlen2
    have HPC := hide hpc
    have HOW := hide hown
    have HTA := hide hta
    clear z0 z1 z2 z3 o0 o1 o2 o3 e1 e2
    obtain ⟨z0, z1, z2, z3⟩ := blkp hta.res
    obtain ⟨o0, o1, _, _⟩ := blkp hta.out
    have hlt0 : w.heap.size + 1 < w0.heap.size := by omega
    clear hta hown hpc hlen2 hL2 C6 PP
    go_wp2
    refine bodyPost_ret (v := .tuple #[.agg #[.slice (some ⟨g, 0, none⟩) n n, .int .i64 B], .bool true]) (by simp [results, Tryd.f14, go_sem, z0, z1]) rfl ⟨some ⟨g, 0, none⟩, n, by rw [HL2.out, HLN.out], M.set m (⟨f, Y, ix Y⟩, u), by rw [HL2.out]; exact HPC.out, ?_, ?_⟩
    · rw [HL2.out, HLN.out]
      exact ((HOW.out.setC ⟨_, _, none⟩ _ hlt0).setC ⟨_, _, none⟩ _ hlt0).base (by omega)
    · exact (HTA.out.bel.setCell (p := ⟨_, _, none⟩) (Nat.le_succ _) _).setCell (p := ⟨_, _, none⟩) (Nat.le_succ _) _
end Go.Proofs.YtapffbbmofhpoazDoor.L6

namespace Go.Proofs.YtapffbbmofhpoazDoor.L6
open Go.RowKit L1
set_option linter.unusedVariables false

open Classical in
set_option maxRecDepth 100000 in
set_option maxHeartbeats 4000000 in
theorem implAppend_full (a : Option Addr) (L : List Pc) (n cap : Nat) (B : Int) (r : ByteArray) (w : World) (hn : L.length = n) (hm : n ≤ 9223372036854775807) (hs : SlC w a L) (hst : TxC L) (ht : Tab w) (hp : AppPre L B r) (hf : ¬ AppFits L r) (hfull : L.length = 20) :
    Calls Tryd.prog 14 #[.agg #[.slice a n cap, .int .i64 B], .string r] w (RetL w [] 0 false) := by
  have hg := hp.1
  have hr20 := hp.2.1
  have h60 := hp.2.2
  rw [hn] at h60
  have C1 := hide (fun wx (hb : Below w.heap.size w wx) => goodLog_any a L n cap B wx hn hm (hs.below hb) hst (ht.below hb) true (by simp; exact hg))
  have hla := hg.logAt hn hs ht
  have C2 := hide (fun wx (hb : Below w.heap.size w wx) => recordsIn_any a L n cap B wx (hla.below hb))
  have hn1 : 1 ≤ n := hla.one
  have hn20 : n ≤ 20 := hla.few
  have hsm : ∀ i, i < n → (gc L i).x.length ≤ 60 := fun i hi => by
    have hgd := (hg.ps i (by omega)).1
    rw [hgd.2.2]
    exact ix_len60 hgd.1
  have C3 := hide (fun wx (hb : Below w.heap.size w wx) => putVarint_yes (r.size : Int) wx (by omega) (by omega) (ht.below hb))
  have C4 := hide (fun wx (hb : Below w.heap.size w wx) => copyLog_any a L n cap B wx hn hn1 hn20 (hs.below hb) hsm)
  obtain ⟨E0, hE0⟩ : ∃ E0, E0 = lastEnd L n - (gc L 0).f := ⟨_, rfl⟩
  rw [← hE0] at C2 h60
  have hE6 : (E0 == 60) = false := by simp only [beq_eq_false_iff_ne]; exact h60
  have hr20' : ¬ (20 : Int) < (r.size : Int) := by omega
  obtain ⟨P, hP⟩ : ∃ P, P = strOfNums (vd (zig (r.size : Int))) := ⟨_, rfl⟩
  rw [← hP] at C3
  obtain ⟨R, hR⟩ : ∃ R, R = rec r := ⟨_, rfl⟩
  have hPr : P ++ r = R := by rw [hR, hP]; rfl
  have hRs : R.size = 1 + r.size := by rw [hR]; exact rec_size r hr20
  have hPs : P.size + r.size = R.size := by rw [← hPr, ByteArray.size_append]
  have qa : ∀ w : World, (Op.stringOp .add P r).run Tryd.prog w = .ok (.string R) w := fun w => by rw [← hPr]; exact run_string_add_sum w _ _ (by omega)
  have HS := hide hs
  have HN := hide hn
  have HG := hide hg
  have HT := hide ht
  have HF := hide hf
  have HRR := hide hR
  clear hs hn hg hst ht hp hf hla hsm hE0 hP hR hPr
  go_enter Tryd.func14, Tryd.ntmps14
  go_wp2_with fail
  refine (C1.out _ (((Below.refl _ _).alloc (Nat.le_refl _) _).alloc (by simp) _)).mono ?_
  rintro e v1 ⟨rfl, hb1⟩
  have G1 : Hid (v1.heap[w.heap.size + 1]? = some (.cells #[.slice none 0 0, .int .i64 0] 29 (0, 0))) := (hb1.block (w.heap.size + 1) (by simp)).trans (blk_second w _ _)
  have H1 : Hid (v1.heap[w.heap.size]? = some (.cells #[.slice a n cap, .int .i64 B] 29 (0, 0))) := (hb1.block w.heap.size (by simp only [World.size_alloc]; omega)).trans (blk_first w _ _)
  obtain ⟨k0, k1, _, _⟩ := blkp H1.out
  have B1 := hide ((((Below.refl w.heap.size w).alloc (Nat.le_refl _) (.cells #[.slice a n cap, .int .i64 B] 29 (0, 0))).alloc (by simp) (.cells #[.slice none 0 0, .int .i64 0] 29 (0, 0))).trans (hb1.mono (by simp; omega)))
  clear hb1
  go_wp2_with fail
  refine (C2.out _ B1.out).mono ?_
  rintro e v2 ⟨rfl, hb2⟩
  have B2 := hide (B1.out.trans (hb2.mono B1.out.size))
  have hs1 : w.heap.size + 1 < v1.heap.size := (Array.getElem?_eq_some_iff.1 G1.out).1
  have hs2 := hb2.size
  have G2 : Hid (v2.heap[w.heap.size + 1]? = some (.cells #[.slice none 0 0, .int .i64 0] 29 (0, 0))) := (hb2.block _ hs1).trans G1.out
  have H2 : Hid (v2.heap[w.heap.size]? = some (.cells #[.slice a n cap, .int .i64 B] 29 (0, 0))) := (hb2.block _ (by omega)).trans H1.out
  clear k0 k1 hb2
  go_wp2_with fail
  refine (C3.out _ B2.out).mono ?_
  rintro e w0 ⟨rfl, hb3⟩
  have B3 := hide (B2.out.trans (hb3.mono B2.out.size))
  have hs3 := hb3.size
  have G3 : Hid (w0.heap[w.heap.size + 1]? = some (.cells #[.slice none 0 0, .int .i64 0] 29 (0, 0))) := (hb3.block _ (by omega)).trans G2.out
  have H3 : Hid (w0.heap[w.heap.size]? = some (.cells #[.slice a n cap, .int .i64 B] 29 (0, 0))) := (hb3.block _ (by omega)).trans H2.out
  obtain ⟨k0, k1, _, _⟩ := blkp H3.out
  clear hb3
  go_wp2_with fail
  refine (C4.out _ B3.out).mono ?_
  rintro e w1 ⟨g, M, rfl, hM, ho, hb4⟩
  have B4 := hide (B3.out.trans (hb4.mono B3.out.size))
  have hs4 := hb4.size
  have G4 : Hid (w1.heap[w.heap.size + 1]? = some (.cells #[.slice none 0 0, .int .i64 0] 29 (0, 0))) := (hb4.block _ (by omega)).trans G3.out
  have hgb := own_ltC ho.row g rfl
  have hml := ho.len
  obtain ⟨m, hm'⟩ : ∃ m, m = n - 1 := ⟨_, rfl⟩
  have hnm : (n : Int) - 1 = (m : Int) := by omega
  have hmn : (m : Int) < (n : Int) := by omega
  have hm0 : (0 : Int) ≤ (m : Int) := by omega
  have hmN : m < n := by omega
  obtain ⟨f1, f2, f3⟩ := flatC_get M m (by omega)
  have hp1 : (M.getD m eV).1 = gc L m := by
    have := pcs_get M m (by omega)
    rw [hM] at this
    exact this.symm
  rw [hp1] at f1 f2
  have hfl : (flatC M).length = n * 3 := by rw [flatC_len, hml]
  have d1 := (ho.row.cellAt (m * 3) (by omega)).trans f1
  have d2 := (ho.row.cellAt (m * 3 + 1) (by omega)).trans f2
  have hlp : endP L = gc L m := by show gc L (L.length - 1) = _; rw [HN.out, hm']
  have hgp := (HG.out.ps m (by rw [HN.out]; exact hmN)).1
  have hfit := HF.out
  unfold AppFits at hfit
  rw [hlp] at hfit
  obtain ⟨p, hp⟩ : ∃ p, p = gc L m := ⟨_, rfl⟩
  rw [← hp] at d1 d2 hlp hfit hgp
  obtain ⟨f, s, x⟩ := p
  simp only at d1 d2 hfit
  obtain ⟨Y, hY⟩ : ∃ Y, Y = s ++ R := ⟨_, rfl⟩
  have hYs : Y.size = s.size + R.size := by rw [hY, ByteArray.size_append]
  have q2 : ∀ w : World, (Op.stringOp .add s R).run Tryd.prog w = .ok (.string Y) w := fun w => by rw [hY]; exact run_string_add_sum w _ _ (by have := hgp.1; simp only at this; omega)
  have hY60 : ¬ (Y.size : Int) ≤ 60 := by omega
  have hnn : ((n : Int) == 20) = true := by have := HN.out; simp; omega
  generalize hW : w1.alloc (.cells #[.slice (some ⟨g, 0, none⟩) n n, .int .i64 B] 29 (0, 0)) = W
  have BW : Below w1.heap.size w1 W := by rw [← hW]; exact (Below.refl _ _).alloc (Nat.le_refl _) _
  have GO : Hid (W.heap[w1.heap.size]? = some (.cells #[.slice (some ⟨g, 0, none⟩) n n, .int .i64 B] 29 (0, 0))) := by show _ = _; rw [← hW]; exact blk_new _ _
  obtain ⟨o0, o1, o2, o3⟩ := blkp GO.out
  have G5 : Hid (W.heap[w.heap.size + 1]? = some (.cells #[.slice none 0 0, .int .i64 0] 29 (0, 0))) := (BW.block _ (by omega)).trans G4.out
  have e1 := (BW.cell (p := ⟨g, m * 3, none⟩) (blk_lt d1)).trans d1
  have e2 := (BW.cell (p := ⟨g, m * 3 + 1, none⟩) (blk_lt d2)).trans d2
  have B5 := hide (B4.out.trans (BW.mono B4.out.size))
  have HO5 := hide (ho.below BW)
  have HM := hide hM
  have HLP := hide hlp
  have HYY := hide hY
  have hwW : w1.heap.size < W.heap.size := (Array.getElem?_eq_some_iff.1 GO.out).1
  obtain ⟨z0, z1, z2, z3⟩ := blkp G5.out
  have HW := hide hW
  clear hW BW ho hM hlp hp1 f1 f2 f3 hfl hgp hY hfit hb4 hm' hml hp d1 d2 k0 k1
  go_upto_region 11 with (first | (rw [HW.out]) | fail)
  first | rw [HW.out] | skip
  go_wp2
  refine bodyPost_ret (v := .tuple #[.agg #[.slice none 0 0, .int .i64 0], .bool false]) (by simp [results, Tryd.f14, go_sem, z0, z1]) rfl (retL_none ((B5.out.setCell (p := ⟨_, _, none⟩) (Nat.le_succ _) _).setCell (p := ⟨_, _, none⟩) (Nat.le_succ _) _))
end Go.Proofs.YtapffbbmofhpoazDoor.L6

namespace Go.Proofs.YtapffbbmofhpoazDoor.L6
open Go.RowKit L1
set_option linter.unusedVariables false

theorem own_empty6 (w : World) (base : Nat) (hb : base ≤ w.heap.size) : (w.alloc (.cells #[] 3)).ownsRow base 3 1 (.slice (some ⟨w.heap.size, 0, none⟩) 0 0) 0 [] :=
  ⟨rfl, .inr ⟨w.heap.size, 0, #[], rfl, hb, by show (w.heap.push _)[w.heap.size]? = _; simp, Nat.le_refl _, by unfold maxLen; omega, rfl, rfl⟩⟩
theorem cell_three_new (w : World) (g : Nat) (hg : w.heap.size = g) (a b c : Value) (t : TypeId) : ∀ j u, [a, b, c][j]? = some u → (w.alloc (.cells #[a, b, c] t)).cell? ((⟨g, 0, none⟩ : Addr).add j) = some u := by
  subst hg
  intro j u h
  rw [addr_add]
  match j, h with
  | 0, h => simp at h; subst h; simp
  | 1, h => simp at h; subst h; simp
  | 2, h => simp at h; subst h; simp
  | j + 3, h => simp at h
theorem getD_app_lt (M : List PV) (q : PV) (i : Nat) (h : i < M.length) : (M ++ [q]).getD i eV = M.getD i eV := by simp [List.getD, List.getElem?_append_left h]
theorem getD_app_at (M : List PV) (q : PV) (n : Nat) (h : M.length = n) : (M ++ [q]).getD n eV = q := by subst h; simp [List.getD]
/-- One more piece. -/
theorem OwC.more {w w' : World} {base n : Nat} {v v' : Value} {M : List PV} {p : Pc} {u : Value} (h : OwC w base v n M) (hu : w.ownsRow base 3 1 u p.x.length (p.x.map (Value.int .i64)))
    (hnew : ∀ i, i < n → ∀ b, u.ownBlock = some b → (M.getD i eV).2.ownBlock ≠ some b) (hg : w.grownBy w' v.ownBlock) (hr : w'.ownsRow base 51 3 v' (n + 1) (flatC M ++ [.int .i64 p.f, .string p.s, u])) :
    OwC w' base v' (n + 1) (M ++ [(p, u)]) := by
  have hl := h.len
  have keep : ∀ {c m : Nat} {v2 : Value} {ys : List Value}, w.ownsRow base 3 c v2 m ys → w'.ownsRow base 3 c v2 m ys := fun hv =>
    own_keptC hv hg (fun b hb e => own_two h.row hv int_piece b e hb)
  refine ⟨by simp [hl], by rw [flatC_append]; exact hr, fun i hi => ?_, fun i j hij hj => ?_⟩
  · by_cases e : i = n
    · subst e
      rw [getD_app_at M _ _ hl]
      exact keep hu
    · rw [getD_app_lt M _ i (by omega)]
      exact keep (h.idx i (by omega))
  · intro b
    by_cases e : j = n
    · subst e
      rw [getD_app_at M _ _ hl, getD_app_lt M _ i (by omega)]
      intro h1 h2
      exact hnew i (by omega) b h2 h1
    · rw [getD_app_lt M _ i (by omega), getD_app_lt M _ j (by omega)]
      exact h.apart i j hij (by omega) b

set_option maxRecDepth 100000 in
set_option maxHeartbeats 4000000 in
theorem l6Own_any (a : Option Addr) (L : List Pc) (n cap : Nat) (B : Int) (w : World) (hn : L.length = n) (h20 : n ≤ 20) (hs : SlC w a L) (hX : ∀ i, i < n → (gc L i).x.length ≤ 60) :
    Calls Tryd.prog 35 #[.agg #[.slice a n cap, .int .i64 B]] w fun e w' => ∃ a' c', e = .returned (.agg #[.slice a' n c', .int .i64 B]) ∧ ∃ M, pcs M = L ∧ OwC w' w.heap.size (.slice a' n c') n M ∧ Below w.heap.size w w' := by
  obtain ⟨i0, hi, hz0, hz1, hz2⟩ := info_parts info_piece
  have HS := hide hs
  have HN := hide hn
  have HX := hide hX
  clear hs hn hX
  go_enter Tryd.func35, Tryd.ntmps35
  go_wp2
  go_loopw [12] (fun i wr => ∃ (k : Nat) (M : List PV) (a1 : Option Addr) (c1 : Nat), k ≤ n ∧ i = .int .i64 k ∧ Hid (OwC wr (w.heap.size + 3) (.slice a1 k c1) k M) ∧ Hid (pcs M = L.take k) ∧ Hid (wr.heap[w.heap.size + 2]? = some (.cells #[.slice a1 k c1, .int .i64 B] 29 (0, 0))) ∧ Hid (wr.heap[w.heap.size + 1]? = some (.cells #[.slice none 0 0, .int .i64 0] 29 (0, 0))) ∧ Below w.heap.size w wr) (fun i _ => n - (intOf i).toNat)
  case atStart =>
    obtain ⟨b3, b2, b1, bz⟩ := blk_three w (.cells #[.slice a n cap, .int .i64 B] 29 (0, 0)) (.cells #[.slice none 0 0, .int .i64 0] 29 (0, 0)) (.cells #[.slice none 0 0, .int .i64 B] 29 (0, 0))
    exact ⟨0, [], none, 0, Nat.zero_le _, rfl, ⟨rfl, World.ownsRow_nil _ _ _ _, fun i hi => absurd hi (Nat.not_lt_zero _), fun i j _ hj => absurd hj (Nat.not_lt_zero _)⟩, rfl, b3, b2, (((Below.refl _ _).alloc (Nat.le_refl _) _).alloc (by simp) _).alloc (by simp; omega) _⟩
  case round =>
    obtain ⟨k, M, a1, c1, hk, rfl, HO, HP, HB2, HB1, hbel⟩ := hrel
    by_cases hlt : k < n
    · obtain ⟨b, off, rfl, ai, ci, hat⟩ := HS.out.below hbel k (by rw [HN.out]; exact hlt)
      have hltI : (k : Int) < (n : Int) := by omega
      have hxl := HX.out k hlt
      have htk : L.take (k + 1) = L.take k ++ [gc L k] := by
        rw [List.take_succ_eq_append_getElem (show k < L.length by rw [HN.out]; exact hlt)]
        simp [gc, List.getD, List.getElem?_eq_getElem (show k < L.length by rw [HN.out]; exact hlt)]
      have d1 := hat.f
      have d2 := hat.s
      have d3 := hat.x
      have d4 := hat.l
      rw [show L.getD k eC = gc L k from rfl] at d1 d2 d3 d4
      obtain ⟨p, hp⟩ : ∃ p, p = gc L k := ⟨_, rfl⟩
      rw [← hp] at d1 d2 d3 d4 hxl htk
      obtain ⟨f, s, x⟩ := p
      simp only at d1 d2 d3 d4 hxl
      obtain ⟨m, hm⟩ : ∃ m, m = x.length := ⟨_, rfl⟩
      rw [← hm] at d3 hxl
      have hsz : w.heap.size + 3 ≤ wr.heap.size := (Array.getElem?_eq_some_iff.1 HB2.out).1
      have HD4 := hide d4
      have HMX := hide hm
      have HTK := hide htk
      have BB := hide hbel
      clear hat d4 hp hm htk hbel
      go_wp2_with (first
        | (at_builtin; refine wpList_append_copy rfl _ _ rfl (w.heap.size + 3) (some ⟨wr.heap.size + 1, 0, none⟩) ai 0 m ci x HMX.out.symm (by omega) rfl (by have := own_empty6 (wr.alloc (.cells #[.int .i64 f, .string s, .slice ai m ci] 51 (0, 0))) (w.heap.size + 3) (by simp; omega); rw [World.size_alloc] at this; exact this) rfl (HD4.out.below (((Below.refl _ _).alloc (Nat.le_refl _) _).alloc (by simp) _)) (by simp; omega) ?_)
        | go_in)
      intro a' c' w6 h6 g6 hat6
      have hal := ((Below.refl wr.heap.size wr).alloc (Nat.le_refl _) (.cells #[.int .i64 f, .string s, .slice ai m ci] 51 (0, 0))).alloc (by simp) (.cells #[] 3 (0, 0))
      have hgs := g6.size
      simp at hgs
      have hb6 : Below wr.heap.size wr w6 := ⟨g6.os.trans hal.os, g6.tape.trans hal.tape, g6.output.trans hal.output, by omega, fun q hq => (g6.block q (by simp; omega) (by simp [Value.ownBlock]; omega)).trans (hal.block q hq)⟩
      have GP : w6.heap[wr.heap.size]? = some (.cells #[.int .i64 f, .string s, .slice ai m ci] 51 (0, 0)) := (g6.block wr.heap.size (by simp; omega) (by simp [Value.ownBlock])).trans ((((Below.refl (wr.alloc (.cells #[.int .i64 f, .string s, .slice ai m ci] 51 (0, 0))).heap.size _).alloc (Nat.le_refl _) _).block wr.heap.size (by simp)).trans (blk_new _ _))
      obtain ⟨e0, e1, e2, e3, e4, e5⟩ := blk3 GP
      have hub : ∀ q, (Value.slice a' m c').ownBlock = some q → wr.heap.size + 1 ≤ q := fun q hq => by
        rcases hat6 with h | h
        · rw [h] at hq; simp [Value.ownBlock] at hq; omega
        · rw [h] at hq; simp at hq; omega
      -- the piece's own box is written into
      have g7 : w6.grownBy (w6.setCell ⟨wr.heap.size, 2, none⟩ (.slice a' m c')) (some wr.heap.size) := ⟨rfl, rfl, rfl, by simp, fun q hq hne => Below.heap_setCell _ _ _ _ (fun e => hne (by rw [e]))⟩
      have O6 := HO.out.below hb6
      have O7 : OwC (w6.setCell ⟨wr.heap.size, 2, none⟩ (.slice a' m c')) (w.heap.size + 3) (.slice a1 k c1) k M := by
        refine ⟨O6.len, own_keptC O6.row g7 (fun q hq e => ?_), fun i hi => own_keptC (O6.idx i hi) g7 (fun q hq e => ?_), O6.apart⟩
        · have := (own_ltC HO.out.row q hq).2
          cases e
          omega
        · have := (own_ltC (HO.out.idx i hi) q hq).2
          cases e
          omega
      have u7 : (w6.setCell ⟨wr.heap.size, 2, none⟩ (.slice a' m c')).ownsRow (w.heap.size + 3) 3 1 (.slice a' m c') m (x.map (Value.int .i64)) := own_keptC h6 g7 (fun q hq e => by
        have := hub q hq
        cases e
        omega)
      have GO6 : w6.heap[w.heap.size + 2]? = some (.cells #[.slice a1 k c1, .int .i64 B] 29 (0, 0)) := (hb6.block (w.heap.size + 2) (by omega)).trans HB2.out
      have GR6 : w6.heap[w.heap.size + 1]? = some (.cells #[.slice none 0 0, .int .i64 0] 29 (0, 0)) := (hb6.block (w.heap.size + 1) (by omega)).trans HB1.out
      have o1 : (w6.setCell ⟨wr.heap.size, 2, none⟩ (.slice a' m c')).cell? ⟨w.heap.size + 2, 0, none⟩ = some (.slice a1 k c1) := grown_cell g7 ⟨w.heap.size + 2, 0, none⟩ (blkp GO6).1 (by simp; omega)
      have HO7 := hide O7
      have HU7 := hide u7
      have HG7 := hide g7
      have HUB := hide hub
      have HGO := hide GO6
      have HGR := hide GR6
      have HB6 := hide hb6
      have hs6 : wr.heap.size + 2 ≤ w6.heap.size := by omega
      have HOL := hide HO.out.inC
      clear h6 g6 hat6 hal GP O6 O7 u7 g7 hub GO6 GR6 hb6 hgs
      go_wp2_with (first
        | (at_builtin; refine wpList_append_own_at _ rfl _ _ 27 rfl (w.heap.size + 3) 51 i0 (.agg #[.int .i64 0, .string ByteArray.empty, .slice none 0 0]) 3 48 Tryd.underlying27 hi hz0 hz1 hz2 rfl (by decide) _ _ _ rfl (HO7.out.row.alloc _) ⟨w6.heap.size, 0, none⟩ 1 1 [.int .i64 f, .string s, .slice a' m c'] rfl rfl (cell_three_new _ _ (by simp) _ _ _ _) (by intro u hu; simp at hu; rcases hu with rfl | rfl | rfl <;> rfl) (by unfold maxLen; omega) (by omega) (by simp; omega) ?_)
        | go_in)
      intro v8 w8 h8 g8 _ hat8
      have O8 : OwC w8 (w.heap.size + 3) v8 (k + 1) (M ++ [((⟨f, s, x⟩ : Pc), .slice a' m c')]) := by
        refine (HO7.out.below ((Below.refl _ _).alloc (Nat.le_refl _) _)).more (w' := w8) (by show World.ownsRow _ _ _ _ _ x.length _; rw [← HMX.out]; exact own_belowC HU7.out ((Below.refl _ _).alloc (Nat.le_refl _) _)) (fun i hi q hq e => ?_) g8 h8
        have h1 := HUB.out q hq
        have h2 := HOL.out.idx i hi q e
        omega
      have gsz := g8.size
      simp at gsz
      have nob : ∀ q, q < w.heap.size + 3 → some q ≠ (Value.slice a1 k c1).ownBlock := fun q hq e => by
        have := (own_ltC HO7.out.row q e.symm).1
        omega
      have blk : ∀ q, q < w.heap.size + 3 → w8.heap[q]? = w6.heap[q]? := fun q hq =>
        (g8.block q (by simp; omega) (nob q hq)).trans ((((Below.refl (w6.setCell ⟨wr.heap.size, 2, none⟩ (.slice a' m c')).heap.size _).alloc (Nat.le_refl _) _).block q (by simp; omega)).trans (Below.heap_setCell _ _ _ _ (show q ≠ wr.heap.size by omega)))
      have GO8 := (blk (w.heap.size + 2) (by omega)).trans HGO.out
      obtain ⟨y0, y1, y2, y3⟩ := blkp GO8
      have GR8 := (blk (w.heap.size + 1) (by omega)).trans HGR.out
      have B8 : Below w.heap.size w w8 := ⟨g8.os.trans (HB6.out.os.trans BB.out.os), g8.tape.trans (HB6.out.tape.trans BB.out.tape), g8.output.trans (HB6.out.output.trans BB.out.output), by have := BB.out.size; omega, fun q hq => (blk q (by omega)).trans ((HB6.out.block q (by omega)).trans (BB.out.block q hq))⟩
      obtain ⟨a8, c8, rfl, _⟩ := O8.form
      have R : ∃ (k' : Nat) (M' : List PV) (a1' : Option Addr) (c1' : Nat), k' ≤ n ∧ Value.int .i64 ((k : Int) + 1) = .int .i64 k' ∧ Hid (OwC (w8.setCell ⟨w.heap.size + 2, 0, none⟩ (.slice a8 (k + 1) c8)) (w.heap.size + 3) (.slice a1' k' c1') k' M') ∧ Hid (pcs M' = L.take k') ∧ Hid ((w8.setCell ⟨w.heap.size + 2, 0, none⟩ (.slice a8 (k + 1) c8)).heap[w.heap.size + 2]? = some (.cells #[.slice a1' k' c1', .int .i64 B] 29 (0, 0))) ∧ Hid ((w8.setCell ⟨w.heap.size + 2, 0, none⟩ (.slice a8 (k + 1) c8)).heap[w.heap.size + 1]? = some (.cells #[.slice none 0 0, .int .i64 0] 29 (0, 0))) ∧ Below w.heap.size w (w8.setCell ⟨w.heap.size + 2, 0, none⟩ (.slice a8 (k + 1) c8)) := by
        refine ⟨k + 1, _, a8, c8, by omega, by simp, O8.setC ⟨w.heap.size + 2, 0, none⟩ _ (Nat.lt_succ_self _), ?_, ?_, (Below.heap_setCell _ _ _ _ (show w.heap.size + 1 ≠ w.heap.size + 2 by omega)).trans GR8, B8.setCell (p := ⟨w.heap.size + 2, 0, none⟩) (by show w.heap.size ≤ w.heap.size + 2; omega) _⟩
        · show pcs (M ++ [_]) = _
          rw [HTK.out, ← HP.out]
          simp
        · show (w8.setCell ⟨w.heap.size + 2, 0, none⟩ (.slice a8 (k + 1) c8)).heap[w.heap.size + 2]? = _
          rw [setCell_eq_setRow w8 (w.heap.size + 2) 0 _ 29 (0, 0) _ GO8, setRow_heap w8 (w.heap.size + 2) _ _ 29 _ GO8]
          rfl
      have HRR := hide R
      clear R O8 gsz nob blk GO8 GR8 B8 h8 g8 hat8
      go_wp2
      go_roundw
      case rel => exact HRR.out
      case measure => simp [intOf]; omega
    · obtain rfl : k = n := by omega
      have hltI : ¬ (k : Int) < (k : Int) := by omega
      obtain ⟨z0, z1, z2, z3⟩ := blkp HB1.out
      obtain ⟨y0, y1, _, _⟩ := blkp HB2.out
      have HPL : Hid (pcs M = L) := by show pcs M = L; rw [HP.out]; exact List.take_of_length_le (by rw [HN.out]; exact Nat.le_refl _)
      have BB := hide hbel
      clear hbel
      go_wp2
      refine bodyPost_ret (v := .agg #[.slice a1 k c1, .int .i64 B]) (by simp [results, Tryd.f35, go_sem, z0, z1]) rfl ⟨_, _, rfl, M, HPL.out, ?_, ?_⟩
      · have z : w.heap.size + 1 < w.heap.size + 3 := by omega
        exact ((HO.out.setC ⟨_, _, none⟩ _ z).setC ⟨_, _, none⟩ _ z).base (by omega)
      · exact (BB.out.setCell (p := ⟨_, _, none⟩) (by show w.heap.size ≤ w.heap.size + 1; omega) _).setCell (p := ⟨_, _, none⟩) (by show w.heap.size ≤ w.heap.size + 1; omega) _
end Go.Proofs.YtapffbbmofhpoazDoor.L6

namespace Go.Proofs.YtapffbbmofhpoazDoor.L6
open Go.RowKit L1
set_option linter.unusedVariables false

theorem own_other {w : World} {base c n G : Nat} {t T : TypeId} {v : Value} {ys : List Value} {cs : Array Value} (h : w.ownsRow base t c v n ys) (hG : w.heap[G]? = some (.cells cs T (0, 0))) (ht : t ≠ T) : v.ownBlock ≠ some G := by
  rcases h.2 with ⟨hv, _⟩ | ⟨g, cap, cur, hv, _, hg, _⟩
  · rw [hv]; simp [Value.ownBlock]
  · rw [hv]
    intro e
    simp [Value.ownBlock] at e
    subst e
    rw [hg] at hG
    simp at hG
    exact ht hG.2
/-- A log's row stays where a box of another kind is written into. -/
theorem OwC.setB {w : World} {base n G j : Nat} {v u : Value} {M : List PV} {cs : Array Value} {T : TypeId} (h : OwC w base v n M) (hG : w.heap[G]? = some (.cells cs T (0, 0))) (h1 : 51 ≠ T) (h2 : 3 ≠ T) : OwC (w.setCell ⟨G, j, none⟩ u) base v n M := by
  have g7 : w.grownBy (w.setCell ⟨G, j, none⟩ u) (some G) := ⟨rfl, rfl, rfl, by simp, fun q hq hne => Below.heap_setCell _ _ _ _ (fun e => hne (by rw [e]))⟩
  exact ⟨h.len, own_keptC h.row g7 (fun q hq e => own_other h.row hG h1 (by rw [hq, ← e])), fun i hi => own_keptC (h.idx i hi) g7 (fun q hq e => own_other (h.idx i hi) hG h2 (by rw [hq, ← e])), h.apart⟩
theorem piece_log : 51 ≠ 29 := by decide
theorem int_log : 3 ≠ 29 := by decide
/-- The copy with a piece more. -/
structure MoreAt (w : World) (base go n : Nat) (B : Int) (M : List PV) (p : Pc) (wx : World) : Prop where
  own : ∃ g c u, OwC wx base (.slice (some ⟨g, 0, none⟩) (n + 1) c) (n + 1) (M ++ [(p, u)]) ∧ wx.heap[go]? = some (.cells #[.slice (some ⟨g, 0, none⟩) (n + 1) c, .int .i64 B] 29 (0, 0))
  bel : Below w.heap.size w wx
  res : wx.heap[w.heap.size + 1]? = some (.cells #[.slice none 0 0, .int .i64 0] 29 (0, 0))
theorem three_cells {wx w3 : World} {k : Nat} {a b c : Value} {t : TypeId} (h : wx.heap[k]? = some (.cells #[a, b, c] t (0, 0))) : ∀ j u, [a, b, c][j]? = some u → wx.cell? ((⟨k, 0, none⟩ : Addr).add j) = some u := by
  intro j u hj
  rw [addr_add]
  match j, hj with
  | 0, hj => simp at hj; subst hj; simp [World.cell?, h]
  | 1, hj => simp at hj; subst hj; simp [World.cell?, h]
  | 2, hj => simp at hj; subst hj; simp [World.cell?, h]
  | j + 3, hj => simp at hj

open Classical in
set_option maxRecDepth 100000 in
set_option maxHeartbeats 4000000 in
theorem implAppend_more (a : Option Addr) (L : List Pc) (n cap : Nat) (B : Int) (r : ByteArray) (w : World) (hn : L.length = n) (hm : n ≤ 9223372036854775807) (hs : SlC w a L) (hst : TxC L) (ht : Tab w) (hp : AppPre L B r) (hf : ¬ AppFits L r) (hfull : L.length ≠ 20) :
    Calls Tryd.prog 14 #[.agg #[.slice a n cap, .int .i64 B], .string r] w (RetL w (L ++ [⟨lastEnd L L.length, rec r, ix (rec r)⟩]) B true) := by
  obtain ⟨L', hL'⟩ : ∃ L', L' = L ++ [(⟨lastEnd L L.length, rec r, ix (rec r)⟩ : Pc)] := ⟨_, rfl⟩
  rw [← hL']
  have HL' := hide hL'
  clear hL'
  have hg := hp.1
  have hr20 := hp.2.1
  have h60 := hp.2.2
  rw [hn] at h60
  have C1 := hide (fun wx (hb : Below w.heap.size w wx) => goodLog_any a L n cap B wx hn hm (hs.below hb) hst (ht.below hb) true (by simp; exact hg))
  have hla := hg.logAt hn hs ht
  have C2 := hide (fun wx (hb : Below w.heap.size w wx) => recordsIn_any a L n cap B wx (hla.below hb))
  have C5 := hide (fun wx (hb : Below w.heap.size w wx) => endOf_any a L n cap B wx (hla.below hb))
  have hn1 : 1 ≤ n := hla.one
  have hn20 : n ≤ 20 := hla.few
  have hsm : ∀ i, i < n → (gc L i).x.length ≤ 60 := fun i hi => by
    have hgd := (hg.ps i (by omega)).1
    rw [hgd.2.2]
    exact ix_len60 hgd.1
  have C3 := hide (fun wx (hb : Below w.heap.size w wx) => putVarint_yes (r.size : Int) wx (by omega) (by omega) (ht.below hb))
  have C4 := hide (fun wx (hb : Below w.heap.size w wx) => copyLog_any a L n cap B wx hn hn1 hn20 (hs.below hb) hsm)
  obtain ⟨E0, hE0⟩ : ∃ E0, E0 = lastEnd L n - (gc L 0).f := ⟨_, rfl⟩
  rw [← hE0] at C2 h60
  have hE6 : (E0 == 60) = false := by simp only [beq_eq_false_iff_ne]; exact h60
  have hr20' : ¬ (20 : Int) < (r.size : Int) := by omega
  obtain ⟨P, hP⟩ : ∃ P, P = strOfNums (vd (zig (r.size : Int))) := ⟨_, rfl⟩
  rw [← hP] at C3
  obtain ⟨R, hR⟩ : ∃ R, R = rec r := ⟨_, rfl⟩
  have hPr : P ++ r = R := by rw [hR, hP]; rfl
  have hRs : R.size = 1 + r.size := by rw [hR]; exact rec_size r hr20
  have hPs : P.size + r.size = R.size := by rw [← hPr, ByteArray.size_append]
  have qa : ∀ w : World, (Op.stringOp .add P r).run Tryd.prog w = .ok (.string R) w := fun w => by rw [← hPr]; exact run_string_add_sum w _ _ (by omega)
  obtain ⟨E, hE⟩ : ∃ E, E = lastEnd L n := ⟨_, rfl⟩
  rw [← hE] at C5
  have HE := hide hE
  clear hE
  have HS := hide hs
  have HN := hide hn
  have HG := hide hg
  have HT := hide ht
  have HF := hide hf
  have HRR := hide hR
  clear hs hn hg hst ht hp hf hla hsm hE0 hP hR hPr
  go_enter Tryd.func14, Tryd.ntmps14
  go_wp2_with fail
  refine (C1.out _ (((Below.refl _ _).alloc (Nat.le_refl _) _).alloc (by simp) _)).mono ?_
  rintro e v1 ⟨rfl, hb1⟩
  have G1 : Hid (v1.heap[w.heap.size + 1]? = some (.cells #[.slice none 0 0, .int .i64 0] 29 (0, 0))) := (hb1.block (w.heap.size + 1) (by simp)).trans (blk_second w _ _)
  have H1 : Hid (v1.heap[w.heap.size]? = some (.cells #[.slice a n cap, .int .i64 B] 29 (0, 0))) := (hb1.block w.heap.size (by simp only [World.size_alloc]; omega)).trans (blk_first w _ _)
  obtain ⟨k0, k1, _, _⟩ := blkp H1.out
  have B1 := hide ((((Below.refl w.heap.size w).alloc (Nat.le_refl _) (.cells #[.slice a n cap, .int .i64 B] 29 (0, 0))).alloc (by simp) (.cells #[.slice none 0 0, .int .i64 0] 29 (0, 0))).trans (hb1.mono (by simp; omega)))
  clear hb1
  go_wp2_with fail
  refine (C2.out _ B1.out).mono ?_
  rintro e v2 ⟨rfl, hb2⟩
  have B2 := hide (B1.out.trans (hb2.mono B1.out.size))
  have hs1 : w.heap.size + 1 < v1.heap.size := (Array.getElem?_eq_some_iff.1 G1.out).1
  have hs2 := hb2.size
  have G2 : Hid (v2.heap[w.heap.size + 1]? = some (.cells #[.slice none 0 0, .int .i64 0] 29 (0, 0))) := (hb2.block _ hs1).trans G1.out
  have H2 : Hid (v2.heap[w.heap.size]? = some (.cells #[.slice a n cap, .int .i64 B] 29 (0, 0))) := (hb2.block _ (by omega)).trans H1.out
  clear k0 k1 hb2
  go_wp2_with fail
  refine (C3.out _ B2.out).mono ?_
  rintro e w0 ⟨rfl, hb3⟩
  have B3 := hide (B2.out.trans (hb3.mono B2.out.size))
  have hs3 := hb3.size
  have G3 : Hid (w0.heap[w.heap.size + 1]? = some (.cells #[.slice none 0 0, .int .i64 0] 29 (0, 0))) := (hb3.block _ (by omega)).trans G2.out
  have H3 : Hid (w0.heap[w.heap.size]? = some (.cells #[.slice a n cap, .int .i64 B] 29 (0, 0))) := (hb3.block _ (by omega)).trans H2.out
  obtain ⟨k0, k1, _, _⟩ := blkp H3.out
  clear hb3
  go_wp2_with fail
  refine (C4.out _ B3.out).mono ?_
  rintro e w1 ⟨g, M, rfl, hM, ho, hb4⟩
  have B4 := hide (B3.out.trans (hb4.mono B3.out.size))
  have hs4 := hb4.size
  have G4 : Hid (w1.heap[w.heap.size + 1]? = some (.cells #[.slice none 0 0, .int .i64 0] 29 (0, 0))) := (hb4.block _ (by omega)).trans G3.out
  have hgb := own_ltC ho.row g rfl
  have hml := ho.len
  obtain ⟨m, hm'⟩ : ∃ m, m = n - 1 := ⟨_, rfl⟩
  have hnm : (n : Int) - 1 = (m : Int) := by omega
  have hmn : (m : Int) < (n : Int) := by omega
  have hm0 : (0 : Int) ≤ (m : Int) := by omega
  have hmN : m < n := by omega
  obtain ⟨f1, f2, f3⟩ := flatC_get M m (by omega)
  have hp1 : (M.getD m eV).1 = gc L m := by
    have := pcs_get M m (by omega)
    rw [hM] at this
    exact this.symm
  rw [hp1] at f1 f2
  have hfl : (flatC M).length = n * 3 := by rw [flatC_len, hml]
  have d1 := (ho.row.cellAt (m * 3) (by omega)).trans f1
  have d2 := (ho.row.cellAt (m * 3 + 1) (by omega)).trans f2
  have hlp : endP L = gc L m := by show gc L (L.length - 1) = _; rw [HN.out, hm']
  have hgp := (HG.out.ps m (by rw [HN.out]; exact hmN)).1
  have hfit := HF.out
  unfold AppFits at hfit
  rw [hlp] at hfit
  obtain ⟨p, hp⟩ : ∃ p, p = gc L m := ⟨_, rfl⟩
  rw [← hp] at d1 d2 hlp hfit hgp
  obtain ⟨f, s, x⟩ := p
  simp only at d1 d2 hfit
  obtain ⟨Y, hY⟩ : ∃ Y, Y = s ++ R := ⟨_, rfl⟩
  have hYs : Y.size = s.size + R.size := by rw [hY, ByteArray.size_append]
  have q2 : ∀ w : World, (Op.stringOp .add s R).run Tryd.prog w = .ok (.string Y) w := fun w => by rw [hY]; exact run_string_add_sum w _ _ (by have := hgp.1; simp only at this; omega)
  have hY60 : ¬ (Y.size : Int) ≤ 60 := by omega
  have hnn : ((n : Int) == 20) = false := by have := HN.out; simp; omega
  generalize hW : w1.alloc (.cells #[.slice (some ⟨g, 0, none⟩) n n, .int .i64 B] 29 (0, 0)) = W
  have BW : Below w1.heap.size w1 W := by rw [← hW]; exact (Below.refl _ _).alloc (Nat.le_refl _) _
  have GO : Hid (W.heap[w1.heap.size]? = some (.cells #[.slice (some ⟨g, 0, none⟩) n n, .int .i64 B] 29 (0, 0))) := by show _ = _; rw [← hW]; exact blk_new _ _
  obtain ⟨o0, o1, o2, o3⟩ := blkp GO.out
  have G5 : Hid (W.heap[w.heap.size + 1]? = some (.cells #[.slice none 0 0, .int .i64 0] 29 (0, 0))) := (BW.block _ (by omega)).trans G4.out
  have e1 := (BW.cell (p := ⟨g, m * 3, none⟩) (blk_lt d1)).trans d1
  have e2 := (BW.cell (p := ⟨g, m * 3 + 1, none⟩) (blk_lt d2)).trans d2
  have B5 := hide (B4.out.trans (BW.mono B4.out.size))
  have HO5 := hide (ho.below BW)
  have HM := hide hM
  have HLP := hide hlp
  have HYY := hide hY
  have hwW : w1.heap.size < W.heap.size := (Array.getElem?_eq_some_iff.1 GO.out).1
  have H5 : Hid (W.heap[w.heap.size]? = some (.cells #[.slice a n cap, .int .i64 B] 29 (0, 0))) := (BW.block _ (by omega)).trans ((hb4.block _ (by omega)).trans H3.out)
  obtain ⟨z0, z1, z2, z3⟩ := blkp G5.out
  obtain ⟨y0, y1, _, _⟩ := blkp H5.out
  have HW := hide hW
  have hwr := rec_whole hr20
  rw [← HRR.out] at hwr
  have HWR := hide hwr
  clear hwr
  clear hW BW ho hM hlp hp1 f1 f2 f3 hfl hgp hY hfit hb4 hm' hml hp d1 d2 k0 k1
  go_upto_region 13 with (first | (rw [HW.out]) | fail)
  first | rw [HW.out] | skip
  obtain ⟨i0, hi, hz0, hz1, hz2⟩ := info_parts info_piece
  obtain ⟨N, hN⟩ : ∃ N, N = (ix R).length := ⟨_, rfl⟩
  have CE := hide (fun wx (hb : Below W.heap.size W wx) => (C5.out wx (B5.out.trans (hb.mono B5.out.size))).mono (R' := fun e w2 => e = .returned (.int .i64 E) ∧ Below W.heap.size W w2 ∧ w2.cell? ⟨w1.heap.size, 0, none⟩ = some (.slice (some ⟨g, 0, none⟩) n n)) (by
    rintro e w2 ⟨rfl, hb2⟩
    have hb3 := hb.trans (hb2.mono hb.size)
    exact ⟨rfl, hb3, (hb3.cell (p := ⟨w1.heap.size, 0, none⟩) hwW).trans o0⟩))
  have C6 := hide (fun wx (hb : Below W.heap.size W wx) => (wholePiece_any E R wx (by omega) (HT.out.below (B5.out.trans (hb.mono B5.out.size)))).mono (R' := fun e w2 => ∃ a2 q2, e = .returned (.agg #[.int .i64 E, .string R, .slice a2 N q2]) ∧ (w2.ownsRow W.heap.size 3 1 (.slice a2 N q2) N ((ix R).map (Value.int .i64)) ∧ Below W.heap.size W w2) ∧ w2.cell? ⟨w1.heap.size, 0, none⟩ = some (.slice (some ⟨g, 0, none⟩) n n) ∧ ∀ ob, (w2.alloc ob).cell? ⟨w1.heap.size, 0, none⟩ = some (.slice (some ⟨g, 0, none⟩) n n)) (by
    rintro e w2 ⟨v2, rfl, ho2, hb2⟩
    have hb3 := hb.trans (hb2.mono hb.size)
    rw [← hN] at ho2
    obtain ⟨a2, q2, rfl, _, _⟩ := own_form ho2
    rw [HWR.out.1]
    have hc := (hb3.cell (p := ⟨w1.heap.size, 0, none⟩) hwW).trans o0
    exact ⟨a2, q2, rfl, ⟨own_baseC ho2 hb.size, hb3⟩, hc, fun ob => Go.Lib.cell?_alloc_some ob hc⟩))
  have HNN := hide hN
  have hw0W : w0.heap.size ≤ W.heap.size := by omega
  have hgW : g < w1.heap.size := hgb.2
  have PP : Hid (∀ w3 a2 q2 g4 c4 w4, (w3.ownsRow W.heap.size 3 1 (.slice a2 N q2) N ((ix R).map (Value.int .i64)) ∧ Below W.heap.size W w3) → w4.ownsRow w0.heap.size 51 3 (.slice (some ⟨g4, 0, none⟩) (n + 1) c4) (n + 1) (flatC M ++ [.int .i64 E, .string R, .slice a2 N q2]) → (w3.alloc (.cells #[.int .i64 E, .string R, .slice a2 N q2] 51 (0, 0))).grownBy w4 (some g) → MoreAt w w0.heap.size w1.heap.size n B M ⟨E, R, ix R⟩ (w4.setCell ⟨w1.heap.size, 0, none⟩ (.slice (some ⟨g4, 0, none⟩) (n + 1) c4)) ∧ w4.cell? ⟨w1.heap.size, 0, none⟩ = some (.slice (some ⟨g, 0, none⟩) n n) ∧ w4.frozen? ⟨w1.heap.size, 0, none⟩ = false) := by
    intro w3 a2 q2 g4 c4 w4 h h4 hg4
    have hs9 := h.2.size
    have hal : Below w3.heap.size w3 (w3.alloc (.cells #[.int .i64 E, .string R, .slice a2 N q2] 51 (0, 0))) := (Below.refl _ _).alloc (Nat.le_refl _) _
    have hba := h.2.trans (hal.mono hs9)
    have hblk : ∀ q, q < W.heap.size → q ≠ g → w4.heap[q]? = W.heap[q]? := fun q hq hne => (hg4.block q (by simp; omega) (by simp; omega)).trans (hba.block q hq)
    have hGo := (hblk w1.heap.size hwW (by omega)).trans GO.out
    have O4 := ((HO5.out.below h.2).below hal).more (w' := w4) (p := ⟨E, R, ix R⟩) (u := .slice a2 N q2) (by show World.ownsRow _ _ _ _ _ (ix R).length _; rw [← HNN.out]; exact own_baseC (own_belowC h.1 hal) hw0W) (fun i hi bb hbb e => by
      have h1 := (own_ltC h.1 bb hbb).1
      have h2 := (own_ltC (HO5.out.idx i hi) bb e).2
      omega) hg4 h4
    have B9 : Below w.heap.size w w4 := ⟨hg4.os.trans (hba.os.trans B5.out.os), hg4.tape.trans (hba.tape.trans B5.out.tape), hg4.output.trans (hba.output.trans B5.out.output), by have := hg4.size; simp at this; have := B5.out.size; omega, fun q hq => (hblk q (by have := B5.out.size; omega) (by omega)).trans (B5.out.block q hq)⟩
    obtain ⟨r0, _, r2, _⟩ := blkp hGo
    refine ⟨⟨⟨g4, c4, .slice a2 N q2, O4.setB hGo piece_log int_log, ?_⟩, B9.setCell (p := ⟨w1.heap.size, 0, none⟩) (by show w.heap.size ≤ w1.heap.size; omega) _, (Below.heap_setCell _ _ _ _ (show w.heap.size + 1 ≠ w1.heap.size by omega)).trans ((hblk (w.heap.size + 1) (by omega) (by omega)).trans G5.out)⟩, r0, r2⟩
    rw [setCell_eq_setRow w4 w1.heap.size 0 _ 29 (0, 0) _ hGo, setRow_heap w4 w1.heap.size _ _ 29 _ hGo]
    rfl
  have HROW := hide HO5.out.row
  clear hN C1 C2 C3 C4 C5
  go_cut [10] (fun t wx => t = .int .i64 m ∧ MoreAt w w0.heap.size w1.heap.size n B M ⟨E, R, ix R⟩ wx)
  case first =>
    go_region_law (first
      | (rw [if_pos (by rfl)]; go_simp; go_at_call 39; refine (CE.out _ ?_).mono ?_; (first | exact Below.refl _ _ | exact (Below.refl _ _).drew | exact ((Below.refl _ _).drew).drew); rintro e w2 ⟨rfl, hb2, c2⟩; dsimp only)
      | (rw [if_pos (by rfl)]; go_simp; go_at_call 38; refine (C6.out _ ?_).mono ?_; (first | exact hb2 | exact hb2.drew | exact (hb2.drew).drew); rintro e w3 ⟨a2, q2, rfl, ho3, c3, c3a⟩; dsimp only)
      | (refine step_append_lies _ rfl (.tmp 71) (.tmp 76) 27 rfl w0.heap.size 51 i0 (.agg #[.int .i64 0, .string ByteArray.empty, .slice none 0 0]) 3 48 Tryd.underlying27 hi hz0 hz1 hz2 rfl (by decide) (.slice (some ⟨g, 0, none⟩) n n) n (flatC M) rfl (own_belowC HROW.out (ho3.2.trans (((Below.refl _ _).alloc (Nat.le_refl _) _).mono ho3.2.size))) ⟨w3.heap.size, 0, none⟩ 1 1 [.int .i64 E, .string R, .slice a2 N q2] rfl rfl (cell_three_new w3 _ rfl _ _ _ _) (by intro u hu; simp at hu; rcases hu with rfl | rfl | rfl <;> rfl) (by decide) (by unfold maxLen; omega) (by omega) (Nat.le_trans hw0W (Nat.le_trans ho3.2.size (by show w3.heap.size ≤ (w3.alloc _).heap.size; simp))) _ rfl ?_; intro g4 c4 w4 h4 hg4 _ _; obtain ⟨pp, r0, r2⟩ := PP.out w3 a2 q2 g4 c4 w4 ho3 h4 hg4))
    all_goals (
      go_wp2_with fail
      go_meet
      case rel => exact ⟨rfl, pp⟩)
  case rest =>
    obtain ⟨rfl, hta⟩ := hcut
    obtain ⟨g4, c4, u, hown, hout⟩ := hta.own
    have hpc : pcs (M ++ [((⟨E, R, ix R⟩ : Pc), u)]) = L ++ [⟨E, R, ix R⟩] := by rw [← HM.out]; show List.map _ _ = _; rw [List.map_append]; rfl
    have hL2 : L' = L ++ [⟨E, R, ix R⟩] := by rw [HL'.out, HN.out, HE.out, HRR.out]
    have hlen2 : L'.length = n + 1 := by rw [hL2]; simp [HN.out]
    have HL2 := hide hL2
    have HLN := hide hlen2
    have HPC := hide hpc
    have HOW := hide hown
    have HTA := hide hta
    clear z0 z1 z2 z3 o0 o1 o2 o3 e1 e2 y0 y1
    obtain ⟨z0, z1, z2, z3⟩ := blkp hta.res
    obtain ⟨o0, o1, _, _⟩ := blkp hout
    have hlt0 : w.heap.size + 1 < w0.heap.size := by omega
    clear hta hown hpc hlen2 hL2 C6 PP CE hout
    go_wp2
    refine bodyPost_ret (v := .tuple #[.agg #[.slice (some ⟨g4, 0, none⟩) (n + 1) c4, .int .i64 B], .bool true]) (by simp [results, Tryd.f14, go_sem, z0, z1]) rfl ⟨some ⟨g4, 0, none⟩, c4, by rw [HLN.out], _, by rw [HL2.out]; exact HPC.out, ?_, ?_⟩
    · rw [HLN.out]
      exact ((HOW.out.setC ⟨_, _, none⟩ _ hlt0).setC ⟨_, _, none⟩ _ hlt0).base (by omega)
    · exact (HTA.out.bel.setCell (p := ⟨_, _, none⟩) (Nat.le_succ _) _).setCell (p := ⟨_, _, none⟩) (Nat.le_succ _) _
end Go.Proofs.YtapffbbmofhpoazDoor.L6
