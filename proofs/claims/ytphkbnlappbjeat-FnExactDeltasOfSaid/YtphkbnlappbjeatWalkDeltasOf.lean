/-
  The walk of the law FnExactDeltasOf: it returns true at every list of ints; memory that was there stays as it was.
-/
import Derived.Test.YtphkbnlappbjeatL2Deltas
import Derived.Test.YtphkbnlappbjeatL2SpecDeltas
import Derived.Test.YtphkbnlappbjeatL1Marks
namespace Go.Proofs.Ytphkbnlappbjeat.fnExactDeltasOf
open Go.RowKit L1
set_option linter.unusedVariables false

theorem sl_base {w w' : World} {a : Option Addr} {xs : List Int} {base : Nat} (h : Sl w a xs) (hb : Below base w w') (hlt : ∀ x, a = some x → x.block < base) : Sl w' a xs := fun i hi => by
  obtain ⟨b, off, ha, hc⟩ := h i hi
  exact ⟨b, off, ha, (hb.cell (p := ⟨b, off + i, none⟩) (hlt ⟨b, off, none⟩ ha)).trans hc⟩
theorem own_ne {w : World} {base n cap g : Nat} {a : Option Addr} {xs : List Value} (h : w.ownsRow base 3 1 (.slice a n cap) n xs) (hg : g < base) : (Value.slice a n cap).ownBlock = none ∨ (Value.slice a n cap).ownBlock ≠ some g := by
  cases a with
  | none => exact .inl rfl
  | some x =>
    refine .inr fun e => ?_
    have := (h.lt g e).1
    omega
theorem own_sl {w : World} {base n cap : Nat} {a : Option Addr} {xs : List Int} (h : w.ownsRow base 3 1 (.slice a n cap) n (xs.map (Value.int .i64))) : Sl w a xs := by
  obtain ⟨b, q, e, s, _⟩ := own_form h
  cases e
  exact s

set_option maxRecDepth 100000 in
set_option maxHeartbeats 4000000 in
theorem walk (a0 : Option Addr) (len0 cap0 : Nat) (z0 : List Int) (w : World) (w0 : IsRow .i64 w a0 len0 cap0 z0) :
    Calls Try.prog 4 #[.slice a0 len0 cap0] w fun e w' => e = .returned (.bool true) ∧ Below w.heap.size w w' := by
  obtain ⟨hs, hn, hm⟩ := sl_of_row w0
  obtain ⟨xs, hxs⟩ : ∃ xs, xs = z0.take len0 := ⟨_, rfl⟩
  rw [← hxs] at hs hn
  have HS := hide hs
  have HN := hide hn
  clear w0 hxs hs hn
  unfold maxLen at hm
  by_cases hsz : 1048576 < (len0 : Int)
  · go_enter Try.func4, Try.ntmps4
    go_wp2
    go_ret
    exact ⟨rfl, Below.refl _ _⟩
  · have hl : len0 ≤ 1048576 := by omega
    have c1 := fun a cap w hs => specDeltas_any a xs len0 cap w HN.out hs hl
    have c2 := fun a cap w hs => deltasOf_any a xs len0 cap w HN.out hs hl
    have hle := dRes_len xs
    obtain ⟨r, hr⟩ : ∃ r, r = dRes xs := ⟨_, rfl⟩
    rw [← hr] at hle
    simp only [← hr] at c1 c2
    obtain ⟨ys, hy⟩ : ∃ ys, ys = r.getD [] := ⟨_, rfl⟩
    obtain ⟨m, hmm⟩ : ∃ m, m = ys.length := ⟨_, rfl⟩
    obtain ⟨ok, hok⟩ : ∃ ok, ok = r.isSome := ⟨_, rfl⟩
    simp only [RetL, ← hy, ← hmm, ← hok] at c1 c2
    rw [← hy, ← hmm] at hle
    have hm2 : m ≤ 1048576 := by omega
    have hk0 : ¬ (1 + (len0 : Int)) < 0 := by omega
    have hk1 : ¬ (1 + (m : Int)) < 0 := by omega
    have C1 := hide c1
    have C2 := hide c2
    have HM := hide hmm.symm
    clear c1 c2 hr hy hmm hok
    go_enter Try.func4, Try.ntmps4
    go_wp2_with fail
    refine (toIntS_any a0 xs len0 cap0 _ HN.out HS.out hl).mono ?_
    rintro e w1 ⟨rfl, ho1, hb1⟩
    have S1 := hide (sl_of_own ho1)
    have B1 := hide hb1
    clear ho1 hb1
    go_wp2_with fail
    refine (C1.out _ _ _ S1.out).mono ?_
    rintro e w2 ⟨v0, rfl, ho2, hb2⟩
    obtain ⟨b0, q0, rfl, s2, _⟩ := own_form ho2
    have U2 := hide s2
    have K2 : Hid (∀ x, b0 = some x → x.block < w2.heap.size) := fun x hx => (ho2.lt x.block (by rw [hx]; rfl)).2
    have B2 := hide (B1.out.trans (hb2.mono B1.out.size))
    clear ho2 s2 hb2 S1 B1
    go_wp2_with fail
    refine (toIntS_any a0 xs len0 cap0 _ HN.out (HS.out.below B2.out) hl).mono ?_
    rintro e w3 ⟨rfl, ho3, hb3⟩
    have O3 := hide ho3
    have X3 := hide ((ho3.lt w2.heap.size rfl).2)
    have U3 := hide (U2.out.below hb3)
    have B3 := hide (B2.out.trans (hb3.mono B2.out.size))
    clear ho3 hb3 U2
    go_wp2_with fail
    refine (C2.out _ _ _ (sl_of_own O3.out)).mono ?_
    rintro e w4 ⟨v1, rfl, ho4, hb4⟩
    obtain ⟨b1, q1, rfl, _, _⟩ := own_form ho4
    have G4 := hide ho4
    have O4 := hide (own_below O3.out hb4)
    have U4 := hide (U3.out.below hb4)
    have B4 := hide (B3.out.trans (hb4.mono B3.out.size))
    clear ho4 hb4 U3 O3
    go_wp2_with fail
    refine (eqIntS_same _ _ ys m _ _ _ HM.out (own_sl G4.out) U4.out hm2).mono ?_
    rintro e w5 ⟨rfl, hb5⟩
    have G5 := hide (own_below G4.out hb5)
    have O5 := hide (own_below O4.out hb5)
    have U5 := hide (U4.out.below hb5)
    have B5 := hide (B4.out.trans (hb5.mono B4.out.size))
    clear hb5 G4 O4 U4 B4
    go_wp2_with fail
    refine (toIntS_any a0 xs len0 cap0 _ HN.out (HS.out.below B5.out) hl).mono ?_
    rintro e w6 ⟨rfl, ho6, hb6⟩
    have S6 := hide (sl_of_own ho6)
    have G6 := hide (own_below G5.out hb6)
    have O6 := hide (own_below O5.out hb6)
    have U6 := hide (U5.out.below hb6)
    have B6 := hide (B5.out.trans (hb6.mono B5.out.size))
    clear ho6 hb6 G5 O5 U5 B5
    go_wp2_with fail
    refine (eqIntS_same _ _ xs len0 _ _ _ HN.out (own_sl O6.out) S6.out hl).mono ?_
    rintro e w7 ⟨rfl, hb7⟩
    have G7 := hide (own_below G6.out hb7)
    have O7 := hide (own_below O6.out hb7)
    have U7 := hide (U6.out.below hb7)
    have B7 := hide (B6.out.trans (hb7.mono B6.out.size))
    clear hb7 G6 O6 U6 B6 S6
    go_wp2_with fail
    refine (markIntS_all w2.heap.size _ xs len0 _ hl O7.out).mono ?_
    rintro e w8 ⟨rfl, _, hb8, hg8⟩
    have G8 := hide (G7.out.kept hg8 (own_ne G7.out X3.out))
    have U8 := hide (sl_base U7.out hb8 K2.out)
    have B8 := hide (B7.out.trans (hb8.mono B2.out.size))
    clear hb8 hg8 G7 U7 B7 O7
    go_wp2_with fail
    refine (eqIntS_same _ _ ys m _ _ _ HM.out (own_sl G8.out) U8.out hm2).mono ?_
    rintro e w9 ⟨rfl, hb9⟩
    have G9 := hide (own_below G8.out hb9)
    have U9 := hide (U8.out.below hb9)
    have B9 := hide (B8.out.trans (hb9.mono B8.out.size))
    clear hb9 G8 U8 B8
    go_wp2_with fail
    refine (markIntS_all w3.heap.size _ ys m _ hm2 G9.out).mono ?_
    rintro e w10 ⟨rfl, ho10, hb10, _⟩
    have G10 := hide (own_sl ho10)
    have U10 := hide (sl_base U9.out hb10 (fun x hx => Nat.lt_trans (K2.out x hx) X3.out))
    have B10 := hide (B9.out.trans (hb10.mono B3.out.size))
    clear ho10 hb10 G9 U9 B9
    go_wp2_with fail
    refine (heldIntS_any _ m _ _ hm2 G10.out).mono ?_
    rintro e w11 ⟨rfl, hb11⟩
    have G11 := hide (G10.out.below hb11)
    have U11 := hide (U10.out.below hb11)
    have B11 := hide (B10.out.trans (hb11.mono B10.out.size))
    clear hb11 G10 U10 B10
    go_wp2_with fail
    refine (toIntS_any a0 xs len0 cap0 _ HN.out (HS.out.below B11.out) hl).mono ?_
    rintro e w12 ⟨rfl, ho12, hb12⟩
    have S12 := hide (sl_of_own ho12)
    have G12 := hide (G11.out.below hb12)
    have U12 := hide (U11.out.below hb12)
    have B12 := hide (B11.out.trans (hb12.mono B11.out.size))
    clear ho12 hb12 G11 U11 B11
    go_wp2_with fail
    refine (C2.out _ _ _ S12.out).mono ?_
    rintro e w13 ⟨v2, rfl, ho13, hb13⟩
    obtain ⟨b2, q2, rfl, s13, _⟩ := own_form ho13
    have V13 := hide s13
    have G13 := hide (G12.out.below hb13)
    have U13 := hide (U12.out.below hb13)
    have B13 := hide (B12.out.trans (hb13.mono B12.out.size))
    clear ho13 s13 hb13 G12 U12 B12 S12
    go_wp2_with fail
    refine (eqIntS_same _ _ ys m _ _ _ HM.out V13.out U13.out hm2).mono ?_
    rintro e w14 ⟨rfl, hb14⟩
    have G14 := hide (G13.out.below hb14)
    have B14 := hide (B13.out.trans (hb14.mono B13.out.size))
    clear hb14 G13 U13 B13 V13
    go_wp2_with fail
    refine (heldIntS_any _ m _ _ hm2 G14.out).mono ?_
    rintro e w15 ⟨rfl, hb15⟩
    have B15 := hide (B14.out.trans (hb15.mono B14.out.size))
    clear hb15
    go_wp2
    go_ret
    exact ⟨rfl, B15.out⟩
end Go.Proofs.Ytphkbnlappbjeat.fnExactDeltasOf
