/-
  Contract: impl.placeOf.
-/
import Derived.Test.YtkjogjjfpjkeoazDoorL6Place
namespace Go.Proofs.YtkjogjjfpjkeoazDoor.L6
open Go.RowKit L1
set_option linter.unusedVariables false

theorem wrap_few (d : Nat) (h : d ≤ 1000) : wrap64 (d : Int) = (d : Int) := by
  unfold wrap64
  omega
set_option maxRecDepth 100000 in
set_option maxHeartbeats 1000000 in
theorem placeOf_any (f : Int) (s : ByteArray) (a : Option Addr) (xs : List Int) (n q : Nat) (t : Nat) (w : World) (hg : GoodP ⟨f, s, xs⟩) (hn : xs.length = n) (ha : Sl w a xs) (ht : t ≤ cnt s) (htab : Tab w) :
    Calls Tryd.prog 47 #[.agg #[.int .i64 f, .string s, .slice a n q], .int .i64 t] w fun e w' => e = .returned (.int .i64 (pl s 0 t : Nat)) ∧ Below w.heap.size w w' := by
  have hs60 : s.size ≤ 60 := hg.1
  have hwh : wh s = s.size := hg.2.1
  have hx : xs = ix s := hg.2.2
  have hnx : n = (cnt s + 2) / 3 := by rw [← hn, hx]; unfold ix; rw [ixk_len]
  have hcl := cnt_le s
  obtain ⟨d, hd⟩ : ∃ d, d = t / 3 := ⟨_, rfl⟩
  obtain ⟨r, hr⟩ : ∃ r, r = t % 3 := ⟨_, rfl⟩
  have hq1 : (t : Int).tdiv 3 = (d : Int) := by rw [Int.tdiv_eq_ediv_of_nonneg (by omega)]; omega
  have hq2 : (t : Int).tmod 3 = (r : Int) := by rw [Int.tmod_eq_emod_of_nonneg (by omega)]; omega
  have htd : t = 3 * d + r := by omega
  have hd60 : d ≤ 1000 := by omega
  by_cases hend : d = n
  · have htc : t = cnt s := by omega
    subst hend
    have E : Hid (pl s 0 t = s.size) := by show pl s 0 t = _; rw [htc]; exact hwh
    clear hg hn ha hx hnx hwh htab hd hr htd htc hcl
    have hw1 := wrap_few d hd60
    go_enter Tryd.func47, Tryd.ntmps47
    go_wp2
    go_ret
    exact ⟨by rw [E.out]; rfl, (Below.refl _ _).alloc (Nat.le_refl _) _⟩
  · have hdn : d < n := by omega
    obtain ⟨b, off, rfl, hc0⟩ := ha d (by rw [hn]; exact hdn)
    rw [hx, show (ix s).getD d 0 = (pl s 0 (3 * d) : Int) by unfold ix; exact ixk_get s _ d (by omega)] at hc0
    have hc := Go.Lib.cell?_alloc_some (.cells #[.int .i64 f, .string s, .slice (some ⟨b, off, none⟩) n q] 51 (0, 0)) hc0
    have hdI : (d : Int) < (n : Int) := by omega
    have hd0 : (0 : Int) ≤ (d : Int) := by omega
    have C := hide (fun (j : Nat) (hj : j < cnt s) wx (ht : Tab wx) => by
      obtain ⟨c, m, h1, h2⟩ := cnt_rc s j hj
      exact recordAt_some s (pl s 0 j) c m wx h1 (by omega) ht)
    have HT := hide htab
    have hr3 : r < 3 := by omega
    have HTD := hide htd
    have HTC : Hid (3 * d + r ≤ cnt s) := by show 3 * d + r ≤ cnt s; omega
    obtain ⟨p, hp⟩ : ∃ p, p = pl s 0 (3 * d) := ⟨_, rfl⟩
    rw [← hp] at hc
    have HP := hide hp
    clear hg hn ha hx hnx hwh htab hd hr htd hcl hc0 hp
    have hw1 := wrap_few d hd60
    have hde : ((d : Int) == (n : Int)) = false := by simp; omega
    go_enter Tryd.func47, Tryd.ntmps47
    go_wp2
    go_loopw [5, 23] (fun x i wr => ∃ j : Nat, j ≤ r ∧ i = .int .i64 j ∧ x = .int .i64 (pl s 0 (3 * d + j) : Nat) ∧ wr.cell? ⟨w.heap.size, 1, none⟩ = some (.string s) ∧ Below w.heap.size w wr) (fun _ i _ => r - (intOf i).toNat)
    case atStart => exact ⟨0, Nat.zero_le _, rfl, by rw [HP.out]; rfl, (blk3 (blk_new w (.cells #[.int .i64 f, .string s, .slice (some ⟨b, off, none⟩) n q] 51 (0, 0)))).2.1, (Below.refl _ _).alloc (Nat.le_refl _) _⟩
    case round =>
      obtain ⟨j, hj, rfl, rfl, k1, hbel⟩ := hrel
      by_cases hlt : j < r
      · have hltI : (j : Int) < (r : Int) := by omega
        have C1 := hide (C.out (3 * d + j) (by have := HTC.out; omega) wr (HT.out.below hbel))
        have e1 : nx s (pl s 0 (3 * d + j)) = pl s 0 (3 * d + j + 1) := rfl
        rw [e1] at C1
        clear e1
        obtain ⟨y, hy⟩ : ∃ y, y = rtx s (pl s 0 (3 * d + j)) := ⟨_, rfl⟩
        rw [← hy] at C1
        obtain ⟨x, hx⟩ : ∃ x, x = pl s 0 (3 * d + j) := ⟨_, rfl⟩
        rw [← hx] at C1 ⊢
        obtain ⟨z, hz⟩ : ∃ z, z = pl s 0 (3 * d + j + 1) := ⟨_, rfl⟩
        rw [← hz] at C1
        have HZ := hide hz
        clear hx hy hz
        go_wp2_with fail
        refine C1.out.mono ?_
        rintro e w1 ⟨rfl, rfl⟩
        go_wp2
        go_roundw
        case rel => exact ⟨j + 1, by omega, by go_num, by rw [HZ.out, Nat.add_assoc], k1, hbel⟩
        case measure => simp [intOf]; omega
      · obtain rfl : j = r := by omega
        have hltI : ¬ (j : Int) < (j : Int) := by omega
        have E : Hid (pl s 0 t = pl s 0 (3 * d + j)) := by show pl s 0 t = _; rw [HTD.out]
        obtain ⟨x, hx⟩ : ∃ x, x = pl s 0 (3 * d + j) := ⟨_, rfl⟩
        rw [← hx] at E ⊢
        clear hx
        go_wp2
        go_ret
        exact ⟨by rw [E.out]; rfl, hbel⟩
end Go.Proofs.YtkjogjjfpjkeoazDoor.L6
