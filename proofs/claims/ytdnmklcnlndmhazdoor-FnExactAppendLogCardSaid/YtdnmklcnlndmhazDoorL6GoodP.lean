/-
  Contracts: slices.Equal at ints, impl.goodPiece.
-/
import Derived.Test.YtdnmklcnlndmhazDoorL6Whole
import Derived.Deep.QuietTactic
import Derived.BigQuiet
namespace Go.Proofs.YtdnmklcnlndmhazDoor.L6
open Go.RowKit L1
set_option linter.unusedVariables false

set_option maxRecDepth 100000 in
set_option maxHeartbeats 1000000 in
theorem equal_any (a b : Option Addr) (xs ys : List Int) (n m c1 c2 : Nat) (w : World) (hn : xs.length = n) (hm : ys.length = m) (ha : Sl w a xs) (hb : Sl w b ys) (hn2 : n ≤ 9223372036854775807) (hm2 : m ≤ 9223372036854775807) (bb : Bool) (hbb : bb = true ↔ xs = ys) :
    Calls Tryd.prog 69 #[.slice a n c1, .slice b m c2] w fun e w' => e = .returned (.bool bb) ∧ Below w.heap.size w w' := by
  have HA := hide ha
  have HB := hide hb
  have HN := hide hn
  have HM := hide hm
  have HBB := hide hbb
  clear ha hb hn hm hbb
  by_cases hnm : n = m
  · subst hnm
    go_enter Tryd.func69, Tryd.ntmps69
    go_wp2
    go_loopw [13] (fun i wr => ∃ k : Nat, k ≤ n ∧ i = .int .i64 k ∧ Hid (∀ j, j < k → xs.getD j 0 = ys.getD j 0) ∧ Below w.heap.size w wr) (fun i _ => n - (intOf i).toNat)
    case atStart => exact ⟨0, Nat.zero_le _, rfl, fun j hj => absurd hj (Nat.not_lt_zero _), Below.refl _ _⟩
    case round =>
      obtain ⟨k, hk, rfl, HK, hbel⟩ := hrel
      by_cases hlt : k < n
      · obtain ⟨b1, o1, rfl, h1⟩ := HA.out k (by rw [HN.out]; exact hlt)
        obtain ⟨b2, o2, rfl, h2⟩ := HB.out k (by rw [HM.out]; exact hlt)
        have g1 := (hbel.cell (p := ⟨b1, o1 + k, none⟩) (blk_lt h1)).trans h1
        have g2 := (hbel.cell (p := ⟨b2, o2 + k, none⟩) (blk_lt h2)).trans h2
        obtain ⟨x, hx⟩ : ∃ x, x = xs.getD k 0 := ⟨_, rfl⟩
        obtain ⟨y, hy⟩ : ∃ y, y = ys.getD k 0 := ⟨_, rfl⟩
        rw [← hx] at g1
        rw [← hy] at g2
        have hltI : (k : Int) < (n : Int) := by omega
        clear h1 h2
        by_cases hxy : x = y
        · have HK2 : Hid (∀ j, j < k + 1 → xs.getD j 0 = ys.getD j 0) := fun j hj => by
            by_cases e : j = k
            · subst e; rw [← hx, ← hy, hxy]
            · exact HK.out j (by omega)
          clear hx hy
          subst hxy
          go_wp2
          go_quiet (fail)
          go_wp2
          go_roundw
          case rel => exact ⟨k + 1, by omega, by go_num, HK2.out, below_drewN hbel _⟩
          case measure => simp [intOf]; omega
        · have hE : bb = false := by
            cases bb with
            | false => rfl
            | true =>
              have := HBB.out.1 rfl
              exact absurd (by rw [hx, hy, this]) hxy
          subst hE
          clear hx hy
          go_wp2
          go_quiet (fail)
          go_wp2
          go_ret
          exact ⟨rfl, below_drewN hbel _⟩
      · obtain rfl : k = n := by omega
        have hltI : ¬ (k : Int) < (k : Int) := by omega
        have hE : bb = true := HBB.out.2 (list_same HM.out HN.out (fun j hj => HK.out j hj))
        subst hE
        go_wp2
        go_ret
        exact ⟨rfl, hbel⟩
  · have hE : bb = false := by
      cases bb with
      | false => rfl
      | true =>
        have := HBB.out.1 rfl
        have h1 := HN.out
        rw [this, HM.out] at h1
        exact absurd h1.symm hnm
    subst hE
    have hI : ¬ (n : Int) = (m : Int) := by omega
    go_enter Tryd.func69, Tryd.ntmps69
    go_wp2
    go_ret
    exact ⟨rfl, Below.refl _ _⟩

theorem extract_ne (s : ByteArray) (k : Nat) (h : k < s.size) : s.extract 0 k ≠ s := fun e => by
  have := congrArg ByteArray.size e
  simp at this
  omega

set_option maxRecDepth 100000 in
set_option maxHeartbeats 1000000 in
theorem goodPiece_any (f : Int) (s : ByteArray) (a : Option Addr) (xs : List Int) (n q : Nat) (w : World) (hn : xs.length = n) (ha : Sl w a xs) (hn2 : n ≤ 9223372036854775807) (hs : s.size ≤ 9223372036854775807) (ht : Tab w) (bb : Bool) (hbb : bb = true ↔ GoodP ⟨f, s, xs⟩) :
    Calls Tryd.prog 55 #[.agg #[.int .i64 f, .string s, .slice a n q]] w fun e w' => e = .returned (.bool bb) ∧ Below w.heap.size w w' := by
  by_cases h60 : (60 : Int) < (s.size : Int)
  · have hE : bb = false := by
      cases bb with
      | false => rfl
      | true =>
        have := (hbb.1 rfl).1
        simp only at this
        omega
    subst hE
    clear hbb ha hn ht
    go_enter Tryd.func55, Tryd.ntmps55
    go_wp2
    go_ret
    exact ⟨rfl, (Below.refl _ _).alloc (Nat.le_refl _) _⟩
  · have C1 := hide (fun w ht => wholePiece_any f s w (by omega) ht)
    have hw := wh_le s
    have HT := hide ht
    have HA := hide ha
    obtain ⟨y, hy⟩ : ∃ y, y = s.extract 0 (wh s) := ⟨_, rfl⟩
    rw [← hy] at C1
    obtain ⟨l, hl⟩ : ∃ l, l = ix s := ⟨_, rfl⟩
    rw [← hl] at C1
    obtain ⟨m, hm⟩ : ∃ m, m = l.length := ⟨_, rfl⟩
    have hm2 : m ≤ 1048576 := by
      rw [hm, hl]
      unfold ix
      rw [ixk_len]
      have := cnt_le s
      omega
    rw [← hm] at C1
    have C2 := hide (fun a1 b1 c1 w h1 h2 bb hbb => equal_any a1 b1 l xs m n c1 q w hm.symm hn h1 h2 (by omega) hn2 bb hbb)
    by_cases hws : wh s = s.size
    · have hys : y = s := by rw [hy, hws]; exact extract_all s
      have hbb2 : bb = true ↔ l = xs := by
        rw [hbb, hl]
        constructor
        · exact fun h => h.2.2.symm
        · exact fun h => ⟨by simp only; omega, hws, h.symm⟩
      have HBB := hide hbb2
      clear hbb hbb2 hy ht ha hn hl hm hws
      subst hys
      go_enter Tryd.func55, Tryd.ntmps55
      go_wp2_with fail
      refine (C1.out _ (HT.out.below ((Below.refl _ _).alloc (Nat.le_refl _) _))).mono ?_
      rintro e w1 ⟨v1, rfl, ho1, hb1⟩
      obtain ⟨a1, q1, rfl, s1, _⟩ := own_form ho1
      have G1 : w1.heap[w.heap.size]? = some (.cells #[.int .i64 f, .string y, .slice a n q] 51 (0, 0)) := (hb1.block w.heap.size (by simp)).trans (blk_new _ _)
      obtain ⟨c0, c1, c2, _, _, _⟩ := blk3 G1
      have hb0 : Below w.heap.size w w1 := ((Below.refl w.heap.size w).alloc (Nat.le_refl _) (.cells #[.int .i64 f, .string y, .slice a n q] 51 (0, 0))).trans (hb1.mono (by simp))
      have hlt : w.heap.size < w1.heap.size := (Array.getElem?_eq_some_iff.1 G1).1
      have k0 : ∀ ob, (w1.alloc ob).cell? ⟨w.heap.size, 1, none⟩ = some (.string y) := fun ob => Go.Lib.cell?_alloc_some ob c1
      have k1 : ∀ ob, (w1.alloc ob).cell? ⟨w.heap.size, 2, none⟩ = some (.slice a n q) := fun ob => Go.Lib.cell?_alloc_some ob c2
      have HS1 := hide s1
      have SA := hide (HA.out.below hb0)
      have B1 := hide hb0
      clear ho1 hb1 G1 s1 hb0
      go_wp2_with fail
      refine (C2.out _ _ _ _ (HS1.out.below ((Below.refl _ _).alloc (Nat.le_refl _) _)) (SA.out.below ((Below.refl _ _).alloc (Nat.le_refl _) _)) bb HBB.out).mono ?_
      rintro e w2 ⟨rfl, hb2⟩
      have B2 := hide ((B1.out.alloc B1.out.size _).trans (hb2.mono (by have := B1.out.size; simp; omega)))
      clear hb2
      go_wp2
      go_ret
      exact ⟨rfl, B2.out⟩
    · have hE : bb = false := by
        cases bb with
        | false => rfl
        | true => exact absurd (hbb.1 rfl).2.1 hws
      have hne : ¬ y.toList = s.toList := fun e => extract_ne s (wh s) (by omega) (by rw [← hy]; exact toList_inj e)
      subst hE
      clear hbb hy ht ha hn hl hm hws C2
      go_enter Tryd.func55, Tryd.ntmps55
      go_wp2_with fail
      refine (C1.out _ (HT.out.below ((Below.refl _ _).alloc (Nat.le_refl _) _))).mono ?_
      rintro e w1 ⟨v1, rfl, ho1, hb1⟩
      obtain ⟨a1, q1, rfl, s1, _⟩ := own_form ho1
      have G1 : w1.heap[w.heap.size]? = some (.cells #[.int .i64 f, .string s, .slice a n q] 51 (0, 0)) := (hb1.block w.heap.size (by simp)).trans (blk_new _ _)
      obtain ⟨c0, c1, c2, _, _, _⟩ := blk3 G1
      have hb0 : Below w.heap.size w w1 := ((Below.refl w.heap.size w).alloc (Nat.le_refl _) (.cells #[.int .i64 f, .string s, .slice a n q] 51 (0, 0))).trans (hb1.mono (by simp))
      have hlt : w.heap.size < w1.heap.size := (Array.getElem?_eq_some_iff.1 G1).1
      have k0 : ∀ ob, (w1.alloc ob).cell? ⟨w.heap.size, 1, none⟩ = some (.string s) := fun ob => Go.Lib.cell?_alloc_some ob c1
      have B1 := hide hb0
      clear ho1 hb1 G1 s1 hb0
      go_wp2
      go_ret
      exact ⟨rfl, B1.out.alloc B1.out.size _⟩
end Go.Proofs.YtdnmklcnlndmhazDoor.L6
