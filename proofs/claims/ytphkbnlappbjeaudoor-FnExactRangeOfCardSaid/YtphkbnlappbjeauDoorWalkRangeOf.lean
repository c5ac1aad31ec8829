/-
  The walk of the law FnExactRangeOf: it returns true at every text and any two numbers, where the table of worths lies in memory; memory that was there stays as it was.
-/
import Derived.Test.YtphkbnlappbjeauDoorL2Range
import Derived.Test.YtphkbnlappbjeauDoorL2Marks
import Derived.Test.YtphkbnlappbjeauDoorL2Lists2
namespace Go.Proofs.YtphkbnlappbjeauDoor.fnExactRangeOf
open Go.RowKit L1
set_option linter.unusedVariables false

theorem own_slS {w : World} {base n cap : Nat} {a : Option Addr} {l : List (Int × Int)} (h : w.ownsRow base 39 2 (.slice a n cap) n (flat2 l)) : Sl2 w a l := by
  obtain ⟨b, q, e, s, _⟩ := own_formS h
  cases e
  exact s

set_option maxRecDepth 100000 in
set_option maxHeartbeats 2000000 in
theorem walk (a0 : ByteArray) (a1 a2 : Int) (w : World) (w0 : a0.size ≤ maxLen) (w1 : (Lit.int .i64 a1).wf = true) (w2 : (Lit.int .i64 a2).wf = true) (ht : Tab w) :
    Calls Tryd.prog 3 #[.string a0, .int .i64 a1, .int .i64 a2] w fun e w' => e = .returned (.bool true) ∧ Below w.heap.size w w' := by
  have HT := hide ht
  clear ht w1 w2
  unfold maxLen at w0
  by_cases hsz : 1048576 < (a0.size : Int)
  · go_enter Tryd.func3, Tryd.ntmps3
    go_wp2
    go_ret
    exact ⟨rfl, Below.refl _ _⟩
  · have hs : a0.size ≤ 1048576 := by omega
    have hle : (((dcRes (bts a0 0)).map (rg a1 a2)).getD []).length ≤ 40 := by
      have := dcRes_len (t := bts a0 0) (bts_mem a0 0)
      cases hd : dcRes (bts a0 0) with
      | none => simp
      | some l =>
        rw [hd] at this
        have h2 := rg_len a1 a2 l
        simp only [Option.getD_some, Option.map_some] at this ⊢
        omega
    obtain ⟨r, hr⟩ : ∃ r, r = (dcRes (bts a0 0)).map (rg a1 a2) := ⟨_, rfl⟩
    rw [← hr] at hle
    have c1 := fun w => specRange_any a0 a1 a2 w hs r hr
    have c2 := fun w ht => rangeOf_any a0 a1 a2 w hs ht r hr
    obtain ⟨xs, hx⟩ : ∃ xs, xs = r.getD [] := ⟨_, rfl⟩
    obtain ⟨n, hn⟩ : ∃ n, n = xs.length := ⟨_, rfl⟩
    obtain ⟨ok, hok⟩ : ∃ ok, ok = r.isSome := ⟨_, rfl⟩
    simp only [RetS, ← hx, ← hn, ← hok] at c1 c2
    rw [← hx, ← hn] at hle
    have hn2 : n ≤ 1048576 := by omega
    have C1 := hide c1
    have C2 := hide c2
    have HN := hide hn.symm
    clear c1 c2 hr hx hn hok
    go_enter Tryd.func3, Tryd.ntmps3
    go_wp2_with fail
    refine (unhide C1 _).mono ?_
    rintro e w1 ⟨v0, rfl, ho1, hb1⟩
    obtain ⟨b0, q0, rfl, s1, _⟩ := own_formS ho1
    have S1 := hide s1
    have B1 := hide hb1
    clear ho1 s1 hb1
    go_wp2_with fail
    refine (unhide C2 _ (HT.out.below B1.out)).mono ?_
    rintro e w2 ⟨v1, rfl, ho2, hb2⟩
    obtain ⟨b1, q1, rfl, s2, _⟩ := own_formS ho2
    have S2 := hide s2
    have O2 := hide ho2
    have T2 := hide (S1.out.below hb2)
    have B2 := hide (B1.out.trans (hb2.mono B1.out.size))
    have Z2 := hide hb2
    clear ho2 s2 hb2
    go_wp2_with fail
    refine (eqSampleS_same _ _ xs n _ _ _ HN.out S2.out T2.out hn2).mono ?_
    rintro e w3 ⟨rfl, hb3⟩
    have O3 := hide (own_belowS O2.out hb3)
    have Z3 := hide (Z2.out.trans (hb3.mono Z2.out.size))
    have B3 := hide (B2.out.trans (hb3.mono B2.out.size))
    clear hb3 O2 S2 T2
    go_wp2_with fail
    refine (markSampleS_any w1.heap.size _ xs n _ hn2 O3.out).mono ?_
    rintro e w4 ⟨rfl, ho4, hb4⟩
    have S4 := hide (own_slS ho4)
    have T4 := hide (S1.out.below (Z3.out.trans hb4))
    have B4 := hide (B3.out.trans (hb4.mono B1.out.size))
    clear ho4 hb4 O3
    go_wp2_with fail
    refine (heldSampleS_any _ n _ _ hn2 S4.out).mono ?_
    rintro e w5 ⟨rfl, hb5⟩
    have S5 := hide (S4.out.below hb5)
    have T5 := hide (T4.out.below hb5)
    have B5 := hide (B4.out.trans (hb5.mono B4.out.size))
    have hn0 : ¬ (1 + 2 * (n : Int)) < 0 := by omega
    clear hb5 S4 T4
    go_wp2_with fail
    refine (unhide C2 _ (HT.out.below B5.out)).mono ?_
    rintro e w6 ⟨v6, rfl, ho6, hb6⟩
    obtain ⟨b6, q6, rfl, s6, _⟩ := own_formS ho6
    have U6 := hide s6
    have S6 := hide (S5.out.below hb6)
    have T6 := hide (T5.out.below hb6)
    have B6 := hide (B5.out.trans (hb6.mono B5.out.size))
    clear ho6 s6 hb6 S5 T5
    go_wp2_with fail
    refine (eqSampleS_same _ _ xs n _ _ _ HN.out U6.out T6.out hn2).mono ?_
    rintro e w7 ⟨rfl, hb7⟩
    have S7 := hide (S6.out.below hb7)
    have B7 := hide (B6.out.trans (hb7.mono B6.out.size))
    clear hb7 S6 T6 U6
    go_wp2_with fail
    refine (heldSampleS_any _ n _ _ hn2 S7.out).mono ?_
    rintro e w8 ⟨rfl, hb8⟩
    have B8 := hide (B7.out.trans (hb8.mono B7.out.size))
    clear hb8
    go_wp2
    go_ret
    exact ⟨rfl, B8.out⟩
end Go.Proofs.YtphkbnlappbjeauDoor.fnExactRangeOf
