/-
  Contracts: impl.GoodLog, impl.EndOf.
-/
import Derived.Test.YtdnmklcnlndmhazDoorL6End
import Derived.Test.YtdnmklcnlndmhazDoorL6Keep
namespace Go.Proofs.YtdnmklcnlndmhazDoor.L6
open Go.RowKit L1
set_option linter.unusedVariables false

theorem goodG_split (L : List Pc) (B : Int) (h1 : 1 ≤ L.length) (h20 : L.length ≤ 20) (hf0 : 0 ≤ (gc L 0).f) (hf1 : (gc L 0).f ≤ 100000) (hp : GoodPs L) :
    GoodG L B ↔ (gc L 0).f ≤ B ∧ B ≤ (gc L 0).f + (cnt (gc L 0).s : Int) ∧ lastEnd L L.length - (gc L 0).f ≤ 60 := by
  have he : atg L L.length = lastEnd L L.length := end_last h1 hp
  constructor
  · intro h
    exact ⟨h.b0, h.b1, by rw [← he]; exact h.few⟩
  · rintro ⟨a, b, c⟩
    exact ⟨h1, h20, hf0, hf1, hp, a, b, by rw [he]; exact c⟩
theorem logAt_of {w : World} {a : Option Addr} {L : List Pc} {n : Nat} (hn : L.length = n) (h1 : 1 ≤ n) (h20 : n ≤ 20) (hs : SlC w a L) (hf0 : 0 ≤ (gc L 0).f) (hf1 : (gc L 0).f ≤ 100000) (hp : GoodPs L) (ht : Tab w) : LogAt w a L n := by
  subst hn
  have hk := hp (L.length - 1) (by omega)
  have hb := atg_bd L (L.length - 1) (fun j hj => (hp j (by omega)).1)
  refine ⟨rfl, h1, h20, hs, ⟨hf0, hf1⟩, ?_, hk.1.1, ht⟩
  rw [hk.2.1]
  omega
theorem GoodG.logAt {w : World} {a : Option Addr} {L : List Pc} {B : Int} {n : Nat} (h : GoodG L B) (hn : L.length = n) (hs : SlC w a L) (ht : Tab w) : LogAt w a L n :=
  logAt_of hn (by rw [← hn]; exact h.one) (by rw [← hn]; exact h.many) hs h.f0 h.f1 h.ps ht
theorem bool_no {bb : Bool} {P : Prop} (h : bb = true ↔ P) (hn : ¬ P) : bb = false := by
  cases bb with
  | false => rfl
  | true => exact absurd (h.1 rfl) hn
theorem bool_yes {bb : Bool} {P : Prop} (h : bb = true ↔ P) (hn : P) : bb = true := h.2 hn

open Classical in
set_option maxRecDepth 100000 in
set_option maxHeartbeats 4000000 in
theorem goodLog_any (a : Option Addr) (L : List Pc) (n cap : Nat) (B : Int) (w : World) (hn : L.length = n) (hm : n ≤ 9223372036854775807) (hs : SlC w a L) (hst : TxC L) (ht : Tab w) (bb : Bool) (hbb : bb = true ↔ GoodG L B) :
    Calls Tryd.prog 11 #[.agg #[.slice a n cap, .int .i64 B]] w fun e w' => e = .returned (.bool bb) ∧ Below w.heap.size w w' := by
  by_cases h1 : (n : Int) < 1
  · obtain rfl := bool_no hbb (fun h => by have := h.one; omega)
    clear hbb hn hs hst ht
    go_enter Tryd.func11, Tryd.ntmps11
    go_wp2
    go_ret
    exact ⟨rfl, (Below.refl _ _).alloc (Nat.le_refl _) _⟩
  · by_cases h20 : (20 : Int) < (n : Int)
    · obtain rfl := bool_no hbb (fun h => by have := h.many; omega)
      clear hbb hn hs hst ht
      go_enter Tryd.func11, Tryd.ntmps11
      go_wp2
      go_ret
      exact ⟨rfl, (Below.refl _ _).alloc (Nat.le_refl _) _⟩
    · have hn1 : 1 ≤ n := by omega
      have hn0 : 0 < n := by omega
      have hn20 : n ≤ 20 := by omega
      have hsx := hst 0 (by rw [hn]; omega)
      obtain ⟨b, off, rfl, ai, ci, hat⟩ := hs 0 (by rw [hn]; omega)
      have hd1 := hat.f
      have hd2 := hat.s
      have hd3 := hat.x
      rw [Nat.zero_mul, Nat.add_zero] at hd1 hd2 hd3
      have hgf : (L.getD 0 eC) = gc L 0 := rfl
      rw [hgf] at hd1 hd2 hd3 hsx
      have e1 : ∀ ob, (w.alloc ob).cell? ⟨b, off, none⟩ = some (.int .i64 (gc L 0).f) := fun ob => Go.Lib.cell?_alloc_some ob hd1
      have e2 : ∀ ob, (w.alloc ob).cell? ⟨b, off + 1, none⟩ = some (.string (gc L 0).s) := fun ob => Go.Lib.cell?_alloc_some ob hd2
      have e3 : ∀ ob, (w.alloc ob).cell? ⟨b, off + 2, none⟩ = some (.slice ai (gc L 0).x.length ci) := fun ob => Go.Lib.cell?_alloc_some ob hd3
      have HS := hide hs
      have HN := hide hn
      have HST := hide hst
      have HT := hide ht
      have HBB := hide hbb
      obtain ⟨f, hf⟩ : ∃ f, f = (gc L 0).f := ⟨_, rfl⟩
      obtain ⟨s, hss⟩ : ∃ s, s = (gc L 0).s := ⟨_, rfl⟩
      obtain ⟨m, hmm⟩ : ∃ m, m = (gc L 0).x.length := ⟨_, rfl⟩
      rw [← hf] at e1
      rw [← hss] at e2
      rw [← hmm] at e3
      have HF := hide hf
      have HSS := hide hss
      clear hs hn hst ht hbb hat hd1 hd2 hd3 hgf hsx hf hss hmm
      by_cases hf0 : f < 0
      · obtain rfl := bool_no HBB.out (fun h => by have := h.f0; rw [← HF.out] at this; omega)
        go_enter Tryd.func11, Tryd.ntmps11
        go_wp2
        go_ret
        exact ⟨rfl, ((Below.refl _ _).alloc (Nat.le_refl _) _).alloc (by simp) _⟩
      · by_cases hf1 : (100000 : Int) < f
        · obtain rfl := bool_no HBB.out (fun h => by have := h.f1; rw [← HF.out] at this; omega)
          go_enter Tryd.func11, Tryd.ntmps11
          go_wp2
          go_ret
          exact ⟨rfl, ((Below.refl _ _).alloc (Nat.le_refl _) _).alloc (by simp) _⟩
        · obtain ⟨bk, hbk⟩ : ∃ bk : Bool, bk = true ↔ GoodPs L := ⟨decide (GoodPs L), by simp⟩
          have C1 := hide (fun wx (hb : Below w.heap.size w wx) => goodPieces_any (some ⟨b, off, none⟩) L n cap wx HN.out hn1 hn20 (HS.out.below hb) HST.out (by rw [← HF.out]; omega) (by rw [← HF.out]; omega) (HT.out.below hb) bk hbk)
          cases bk with
          | false =>
            obtain rfl := bool_no HBB.out (fun h => absurd (hbk.2 h.ps) (by simp))
            clear hbk
            go_enter Tryd.func11, Tryd.ntmps11
            go_wp2_with fail
            refine (C1.out _ (((Below.refl _ _).alloc (Nat.le_refl _) _).alloc (by simp) _)).mono ?_
            rintro e w1 ⟨rfl, hb1⟩
            have B1 := hide ((((Below.refl w.heap.size w).alloc (Nat.le_refl _) (.cells #[.slice (some ⟨b, off, none⟩) n cap, .int .i64 B] 29 (0, 0))).alloc (by simp) (.cells #[.int .i64 f, .string s, .slice ai m ci] 51 (0, 0))).trans (hb1.mono (by simp; omega)))
            clear hb1
            go_wp2
            go_ret
            exact ⟨rfl, B1.out⟩
          | true =>
            have hps := hbk.1 rfl
            have hsp := goodG_split L B (by rw [HN.out]; exact hn1) (by rw [HN.out]; exact hn20) (by rw [← HF.out]; omega) (by rw [← HF.out]; omega) hps
            rw [HN.out, ← HF.out, ← HSS.out] at hsp
            have hla : LogAt w (some ⟨b, off, none⟩) L n := logAt_of HN.out hn1 hn20 HS.out (by rw [← HF.out]; omega) (by rw [← HF.out]; omega) hps HT.out
            have hs60 : s.size ≤ 60 := by rw [HSS.out]; exact (hps 0 (by rw [HN.out]; omega)).1.1
            have C2 := hide (fun wx (hb : Below w.heap.size w wx) => endOfPiece_any f s ai m ci wx (by omega) (by omega) (by omega) (HT.out.below hb))
            have C3 := hide (fun wx (hb : Below w.heap.size w wx) => recordsIn_any (some ⟨b, off, none⟩) L n cap B wx (hla.below hb))
            rw [← HF.out] at C3
            have hcl := cnt_le s
            obtain ⟨E, hE⟩ : ∃ E, E = lastEnd L n - f := ⟨_, rfl⟩
            obtain ⟨N, hN⟩ : ∃ N, N = f + (cnt s : Int) := ⟨_, rfl⟩
            rw [← hE] at hsp C3
            rw [← hN] at hsp C2
            have HSP := hide hsp
            clear hbk hps hsp hla hE hN hcl
            go_enter Tryd.func11, Tryd.ntmps11
            go_wp2_with fail
            refine (C1.out _ (((Below.refl _ _).alloc (Nat.le_refl _) _).alloc (by simp) _)).mono ?_
            rintro e w1 ⟨rfl, hb1⟩
            have B1 := hide ((((Below.refl w.heap.size w).alloc (Nat.le_refl _) (.cells #[.slice (some ⟨b, off, none⟩) n cap, .int .i64 B] 29 (0, 0))).alloc (by simp) (.cells #[.int .i64 f, .string s, .slice ai m ci] 51 (0, 0))).trans (hb1.mono (by simp; omega)))
            have G0 : w1.heap[w.heap.size]? = some (.cells #[.slice (some ⟨b, off, none⟩) n cap, .int .i64 B] 29 (0, 0)) := (hb1.block w.heap.size (by simp; omega)).trans ((((Below.refl (w.alloc (.cells #[.slice (some ⟨b, off, none⟩) n cap, .int .i64 B] 29 (0, 0))).heap.size _).alloc (Nat.le_refl _) _).block w.heap.size (by simp)).trans (blk_new _ _))
            have G1 : w1.heap[w.heap.size + 1]? = some (.cells #[.int .i64 f, .string s, .slice ai m ci] 51 (0, 0)) := (hb1.block (w.heap.size + 1) (by simp)).trans (by have := blk_new (w.alloc (.cells #[.slice (some ⟨b, off, none⟩) n cap, .int .i64 B] 29 (0, 0))) (.cells #[.int .i64 f, .string s, .slice ai m ci] 51 (0, 0)); rw [World.size_alloc] at this; exact this)
            obtain ⟨k0, k1⟩ := blk2 G0
            obtain ⟨c0, c1, c2, _, _, _⟩ := blk3 G1
            clear hb1 G0 G1
            by_cases hB0 : f ≤ B
            · by_cases hB1 : B ≤ N
              · have hE2 : bb = decide (E ≤ 60) := by
                  have h1 := HBB.out
                  rw [HSP.out] at h1
                  cases bb with
                  | true => exact (decide_eq_true (h1.1 rfl).2.2).symm
                  | false =>
                    refine (decide_eq_false (fun h => ?_)).symm
                    exact absurd (h1.2 ⟨hB0, hB1, h⟩) (by simp)
                subst hE2
                go_wp2
                go_region_held3 (fun wx => (wx.cell? ⟨w.heap.size, 0, none⟩ = some (.slice (some ⟨b, off, none⟩) n cap) ∧ wx.cell? ⟨w.heap.size, 1, none⟩ = some (.int .i64 B) ∧ wx.cell? ⟨w.heap.size + 1, 0, none⟩ = some (.int .i64 f) ∧ wx.cell? ⟨w.heap.size + 1, 1, none⟩ = some (.string s) ∧ wx.cell? ⟨w.heap.size + 1, 2, none⟩ = some (.slice ai m ci)) ∧ Below w1.heap.size w1 wx) (first | exact ⟨⟨k0, k1, c0, c1, c2⟩, (Below.refl _ _).drew⟩ | exact keep5 (by assumption) (by assumption) (Nat.le_refl _)) (first | (go_at_call 31; refine (C2.out _ (B1.out.trans ((by first | exact And.right (by assumption) | exact (Below.refl _ _).drew | exact Below.refl _ _ : Below w1.heap.size w1 _).mono B1.out.size))).mono ?_; rintro e w2 ⟨rfl, hb⟩) | (go_at_call 32; refine (C3.out _ (B1.out.trans ((by first | exact And.right (by assumption) | exact (Below.refl _ _).drew | exact Below.refl _ _ : Below w1.heap.size w1 _).mono B1.out.size))).mono ?_; rintro e w2 ⟨rfl, hb⟩))
                rename_i hHeld
                have B2 := hide (B1.out.trans (hHeld.2.mono B1.out.size))
                clear hHeld
                go_wp2
                go_ret
                exact ⟨rfl, B2.out⟩
              · obtain rfl := bool_no HBB.out (fun h => hB1 (HSP.out.1 h).2.1)
                have C4 := hide (fun wx (hb : Below w1.heap.size w1 wx) => (C2.out wx (B1.out.trans (hb.mono B1.out.size))).mono (R' := fun e w2 => e = .returned (.int .i64 N) ∧ Below w1.heap.size w1 w2 ∧ w2.cell? ⟨w.heap.size, 0, none⟩ = some (.slice (some ⟨b, off, none⟩) n cap) ∧ w2.cell? ⟨w.heap.size, 1, none⟩ = some (.int .i64 B) ∧ w2.cell? ⟨w.heap.size + 1, 0, none⟩ = some (.int .i64 f) ∧ w2.cell? ⟨w.heap.size + 1, 1, none⟩ = some (.string s) ∧ w2.cell? ⟨w.heap.size + 1, 2, none⟩ = some (.slice ai m ci)) (by
                  rintro e w2 ⟨rfl, hb2⟩
                  have h3 := hb.trans (hb2.mono hb.size)
                  obtain ⟨⟨j0, j1, j2, j3, j4⟩, _⟩ := keep5 (wa := w1) (wb := w2) (W := w1) (N := w1.heap.size) ⟨⟨k0, k1, c0, c1, c2⟩, Below.refl _ _⟩ h3 (Nat.le_refl _)
                  exact ⟨rfl, h3, j0, j1, j2, j3, j4⟩))
                go_wp2
                go_region_with (go_at_call 31; refine (C4.out _ ?_).mono ?_; (first | exact Below.refl _ _ | exact (Below.refl _ _).drew | exact ((Below.refl _ _).drew).drew); rintro e w2 ⟨rfl, hb2, d0, d1, d2, d3, d4⟩)
                all_goals (have B2 := hide (B1.out.trans (hb2.mono B1.out.size)); clear hb2; go_wp2; go_ret; exact ⟨rfl, B2.out⟩)
            · obtain rfl := bool_no HBB.out (fun h => hB0 (HSP.out.1 h).1)
              go_wp2
              have hB2 : decide (f ≤ B) = false := decide_eq_false (by omega)
              refine wp_region_held_drew (S := fun wx => (wx.cell? ⟨w.heap.size, 0, none⟩ = some (.slice (some ⟨b, off, none⟩) n cap) ∧ wx.cell? ⟨w.heap.size, 1, none⟩ = some (.int .i64 B) ∧ wx.cell? ⟨w.heap.size + 1, 0, none⟩ = some (.int .i64 f) ∧ wx.cell? ⟨w.heap.size + 1, 1, none⟩ = some (.string s) ∧ wx.cell? ⟨w.heap.size + 1, 2, none⟩ = some (.slice ai m ci)) ∧ Below w1.heap.size w1 wx) (by kernel_rfl) ⟨⟨k0, k1, c0, c1, c2⟩, (Below.refl _ _).drew⟩ (fun hHeld => ?_)
              refine wpAnyH_take (i := 0) (v := ?v1) rfl (by kernel_rfl) (by kernel_rfl) (by kernel_rfl) (fun _ _ _ h => h) (Or.inl ⟨by rfl, ?y1⟩) (by assumption) ?r1
              case y1 => (intro w hSw; (try dsimp only at hSw); go_simp; try (with_reducible rfl))
              simp only [List.getElem_toArray, List.getElem_cons_zero, Act.put, List.setIfInBounds_toArray, List.set_cons_zero, List.set_cons_succ]
              refine wpAnyH_take (i := 1) (v := ?v2) rfl (by kernel_rfl) (by kernel_rfl) (by kernel_rfl) (fun _ _ _ h => h) (Or.inl ⟨by rfl, ?y2⟩) (by assumption) ?r2
              case y2 => (intro w hSw; (try dsimp only at hSw); go_simp; try (with_reducible rfl))
              simp only [List.getElem_toArray, List.getElem_cons_succ, List.getElem_cons_zero, Act.put, List.setIfInBounds_toArray, List.set_cons_zero, List.set_cons_succ]
              refine wpAnyH_take (i := 2) (v := ?v3) rfl (by kernel_rfl) (by kernel_rfl) (by kernel_rfl) (fun _ _ _ h => h) (Or.inl ⟨by rfl, ?y3⟩) (by assumption) ?r3
              case y3 => (intro w hSw; (try dsimp only at hSw); go_simp; try (with_reducible rfl))
              simp only [List.getElem_toArray, List.getElem_cons_succ, List.getElem_cons_zero, Act.put, List.setIfInBounds_toArray, List.set_cons_zero, List.set_cons_succ]
              refine wpAnyH_take (i := 3) (v := ?v4) rfl (by kernel_rfl) (by kernel_rfl) (by kernel_rfl) (fun _ _ _ h => h) (Or.inl ⟨by rfl, ?y4⟩) (by assumption) ?r4
              case y4 => (intro w hSw; (try dsimp only at hSw); go_simp; try (with_reducible rfl))
              simp only [List.getElem_toArray, List.getElem_cons_succ, List.getElem_cons_zero, Act.put, List.setIfInBounds_toArray, List.set_cons_zero, List.set_cons_succ]
              refine wpAnyH_take (i := 4) (v := ?v5) rfl (by kernel_rfl) (by kernel_rfl) (by kernel_rfl) (fun _ _ _ h => h) (Or.inl ⟨by rfl, ?y5⟩) (by assumption) ?r5
              case y5 => (intro w hSw; (try dsimp only at hSw); go_simp; try (with_reducible rfl))
              simp only [List.getElem_toArray, List.getElem_cons_succ, List.getElem_cons_zero, Act.put, List.setIfInBounds_toArray, List.set_cons_zero, List.set_cons_succ]
              try simp only [hB2]
              refine wpAnyH_take (i := 5) (v := ?v6) rfl (by kernel_rfl) (by kernel_rfl) (by kernel_rfl) (fun _ _ _ h => h) (Or.inl ⟨by rfl, ?y6⟩) (by assumption) ?r6
              case y6 => (intro w hSw; (try dsimp only at hSw); go_simp; try (with_reducible rfl))
              simp only [List.getElem_toArray, List.getElem_cons_succ, List.getElem_cons_zero, Act.put, List.setIfInBounds_toArray, List.set_cons_zero, List.set_cons_succ]
              refine wpAnyH_take (i := 6) (v := undef) rfl (by kernel_rfl) (by kernel_rfl) (by kernel_rfl) (fun _ _ _ h => h) (Or.inr ⟨by rfl, rfl⟩) (by assumption) ?_
              simp only [List.getElem_toArray, List.getElem_cons_succ, List.getElem_cons_zero, Act.put, List.setIfInBounds_toArray, List.set_cons_zero, List.set_cons_succ]
              refine wpAnyH_take (i := 7) (v := undef) rfl (by kernel_rfl) (by kernel_rfl) (by kernel_rfl) (fun _ _ _ h => h) (Or.inr ⟨by rfl, rfl⟩) (by assumption) ?_
              simp only [List.getElem_toArray, List.getElem_cons_succ, List.getElem_cons_zero, Act.put, List.setIfInBounds_toArray, List.set_cons_zero, List.set_cons_succ]
              refine wpAnyH_take (i := 8) (v := undef) rfl (by kernel_rfl) (by kernel_rfl) (by kernel_rfl) (fun _ _ _ h => h) (Or.inr ⟨by rfl, rfl⟩) (by assumption) ?_
              simp only [List.getElem_toArray, List.getElem_cons_succ, List.getElem_cons_zero, Act.put, List.setIfInBounds_toArray, List.set_cons_zero, List.set_cons_succ]
              refine wpAnyH_take (i := 9) (v := undef) rfl (by kernel_rfl) (by kernel_rfl) (by kernel_rfl) (fun _ _ _ h => h) (Or.inr ⟨by rfl, rfl⟩) (by assumption) ?_
              simp only [List.getElem_toArray, List.getElem_cons_succ, List.getElem_cons_zero, Act.put, List.setIfInBounds_toArray, List.set_cons_zero, List.set_cons_succ]
              refine wpAnyH_take (i := 10) (v := undef) rfl (by kernel_rfl) (by kernel_rfl) (by kernel_rfl) (fun _ _ _ h => h) (Or.inr ⟨by rfl, rfl⟩) (by assumption) ?_
              simp only [List.getElem_toArray, List.getElem_cons_succ, List.getElem_cons_zero, Act.put, List.setIfInBounds_toArray, List.set_cons_zero, List.set_cons_succ]
              refine wpAnyH_take (i := 11) (v := ?v12) rfl (by kernel_rfl) (by kernel_rfl) (by kernel_rfl) (fun _ _ _ h => h) (Or.inl ⟨by rfl, ?y12⟩) (by assumption) ?r12
              case y12 => (intro w hSw; (try dsimp only at hSw); go_simp; try (with_reducible rfl))
              simp only [List.getElem_toArray, List.getElem_cons_succ, List.getElem_cons_zero, Act.put, List.setIfInBounds_toArray, List.set_cons_zero, List.set_cons_succ]
              refine wpAnyH_take (i := 12) (v := ?v13) rfl (by kernel_rfl) (by kernel_rfl) (by kernel_rfl) (fun _ _ _ h => h) (Or.inl ⟨by rfl, ?y13⟩) (by assumption) ?r13
              case y13 => (intro w hSw; (try dsimp only at hSw); go_simp; try (with_reducible rfl))
              simp only [List.getElem_toArray, List.getElem_cons_succ, List.getElem_cons_zero, Act.put, List.setIfInBounds_toArray, List.set_cons_zero, List.set_cons_succ]
              refine wpAnyH_take (i := 13) (v := undef) rfl (by kernel_rfl) (by kernel_rfl) (by kernel_rfl) (fun _ _ _ h => h) (Or.inr ⟨by rfl, rfl⟩) (by assumption) ?_
              simp only [List.getElem_toArray, List.getElem_cons_succ, List.getElem_cons_zero, Act.put, List.setIfInBounds_toArray, List.set_cons_zero, List.set_cons_succ]
              refine wpAnyH_take (i := 14) (v := undef) rfl (by kernel_rfl) (by kernel_rfl) (by kernel_rfl) (fun _ _ _ h => h) (Or.inr ⟨by rfl, rfl⟩) (by assumption) ?_
              simp only [List.getElem_toArray, List.getElem_cons_succ, List.getElem_cons_zero, Act.put, List.setIfInBounds_toArray, List.set_cons_zero, List.set_cons_succ]
              refine wpAnyH_take (i := 15) (v := undef) rfl (by kernel_rfl) (by kernel_rfl) (by kernel_rfl) (fun _ _ _ h => h) (Or.inr ⟨by rfl, rfl⟩) (by assumption) ?_
              simp only [List.getElem_toArray, List.getElem_cons_succ, List.getElem_cons_zero, Act.put, List.setIfInBounds_toArray, List.set_cons_zero, List.set_cons_succ]
              refine wpAnyH_take (i := 16) (v := ?v17) rfl (by kernel_rfl) (by kernel_rfl) (by kernel_rfl) (fun _ _ _ h => h) (Or.inl ⟨by rfl, ?y17⟩) (by assumption) ?r17
              case y17 => (intro w hSw; (try dsimp only at hSw); go_simp; try (with_reducible rfl))
              simp only [List.getElem_toArray, List.getElem_cons_succ, List.getElem_cons_zero, Act.put, List.setIfInBounds_toArray, List.set_cons_zero, List.set_cons_succ]
              refine wpAnyH_take (i := 17) (v := ?v18) rfl (by kernel_rfl) (by kernel_rfl) (by kernel_rfl) (fun _ _ _ h => h) (Or.inl ⟨by rfl, ?y18⟩) (by assumption) ?r18
              case y18 => (intro w hSw; (try dsimp only at hSw); go_simp; try (with_reducible rfl))
              simp only [List.getElem_toArray, List.getElem_cons_succ, List.getElem_cons_zero, Act.put, List.setIfInBounds_toArray, List.set_cons_zero, List.set_cons_succ]
              refine wpAnyH_done (by kernel_rfl) ?_ _
              have B2 := hide (B1.out.trans (hHeld.2.mono B1.out.size))
              clear hHeld
              go_wp2
              go_ret
              exact ⟨rfl, B2.out⟩
end Go.Proofs.YtdnmklcnlndmhazDoor.L6
