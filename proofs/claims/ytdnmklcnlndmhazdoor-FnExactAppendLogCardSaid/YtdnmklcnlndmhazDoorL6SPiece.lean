/-
  Contracts: spec.l6Piece, spec.l1Same.
-/
import Derived.Test.YtdnmklcnlndmhazDoorL6SRec
import Derived.Test.YtdnmklcnlndmhazDoorL6Whole0
import Derived.Deep.QuietTactic
import Derived.BigQuiet
namespace Go.Proofs.YtdnmklcnlndmhazDoor.L6
open Go.RowKit L1
set_option linter.unusedVariables false

set_option maxRecDepth 100000 in
set_option maxHeartbeats 2000000 in
theorem l6Piece_any (f : Int) (s : ByteArray) (w : World) (hs : s.size ≤ 1048576) :
    Calls Tryd.prog 58 #[.int .i64 f, .string s] w fun e w' => ∃ v, e = .returned (.agg #[.int .i64 f, .string s, v]) ∧ w'.ownsRow w.heap.size 3 1 v (ix s).length ((ix s).map (Value.int .i64)) ∧ Below w.heap.size w w' := by
  obtain ⟨N, hN⟩ : ∃ N, N = (ix s).length := ⟨_, rfl⟩
  rw [← hN]
  have C1 := hide (fun w => l6Starts_any s w hs)
  have hcl := cnt_le s
  obtain ⟨m, hm⟩ : ∃ m, m = cnt s := ⟨_, rfl⟩
  have C2 := hide (fun a cap w hs => l6Index_any s a m cap w hm.symm (by omega) hs)
  rw [← hm] at C1
  obtain ⟨k, hk⟩ : ∃ k, k = wh s := ⟨_, rfl⟩
  rw [← hk] at C1
  clear hk hm
  go_enter Tryd.func58, Tryd.ntmps58
  go_wp2_with fail
  refine (C1.out _).mono ?_
  rintro e w1 ⟨v1, rfl, ho1, hb1⟩
  obtain ⟨a1, q1, rfl, s1, _⟩ := own_form ho1
  have G1 : w1.heap[w.heap.size]? = some (.cells #[.int .i64 0, .string ByteArray.empty, .slice none 0 0] 51 (0, 0)) := (hb1.block w.heap.size (by simp)).trans (blk_new _ _)
  have B1 := hide (((Below.refl w.heap.size w).alloc (Nat.le_refl _) (.cells #[.int .i64 0, .string ByteArray.empty, .slice none 0 0] 51 (0, 0))).trans (hb1.mono (by simp)))
  have hlt : w.heap.size < w1.heap.size := (Array.getElem?_eq_some_iff.1 G1).1
  have C3 := hide (fun wx (hb : Below w1.heap.size w1 wx) => (C2.out a1 q1 wx (s1.below hb)).mono (R' := fun e w2 => ∃ a2 q2, e = .returned (.slice a2 N q2) ∧ (w2.ownsRow w1.heap.size 3 1 (.slice a2 N q2) N ((ix s).map (Value.int .i64)) ∧ Below w1.heap.size w1 w2) ∧ (w2.cell? ⟨w.heap.size, 0, none⟩ = some (.int .i64 0) ∧ w2.cell? ⟨w.heap.size, 1, none⟩ = some (.string ByteArray.empty) ∧ w2.cell? ⟨w.heap.size, 2, none⟩ = some (.slice none 0 0) ∧ w2.frozen? ⟨w.heap.size, 0, none⟩ = false ∧ w2.frozen? ⟨w.heap.size, 1, none⟩ = false ∧ w2.frozen? ⟨w.heap.size, 2, none⟩ = false)) (by
    rintro e w2 ⟨v2, rfl, ho2, hb2⟩
    have hb3 := hb.trans (hb2.mono hb.size)
    rw [← hN] at ho2
    obtain ⟨a2, q2, rfl, _, _⟩ := own_form ho2
    exact ⟨a2, q2, rfl, ⟨own_baseC ho2 hb.size, hb3⟩, blk3 ((hb3.block w.heap.size (Array.getElem?_eq_some_iff.1 G1).1).trans G1)⟩))
  clear ho1 hb1 s1 G1 C2 hN
  go_wp2_with fail
  refine (C3.out _ (Below.refl _ _)).mono ?_
  rintro e w2 ⟨a2, q2, rfl, ho2, c0, c1, c2, c3, c4, c5⟩
  have H2 := hide ho2
  clear ho2
  go_wp2
  refine bodyPost_ret (v := .agg #[.int .i64 f, .string s, .slice a2 N q2]) (by simp [results, Tryd.f58, go_sem, c0, c1, c2]) rfl ⟨_, rfl, ?_, ?_⟩
  · exact own_setC (own_setC (own_setC (own_baseC H2.out.1 (Nat.le_refl _)) ⟨_, _, none⟩ _ hlt) ⟨_, _, none⟩ _ hlt) ⟨_, _, none⟩ _ hlt |> fun h => own_baseC h (Nat.le_of_lt hlt)
  · exact (((B1.out.trans (H2.out.2.mono B1.out.size)).setCell (p := ⟨_, _, none⟩) (Nat.le_refl _) _).setCell (p := ⟨_, _, none⟩) (Nat.le_refl _) _).setCell (p := ⟨_, _, none⟩) (Nat.le_refl _) _

set_option maxRecDepth 100000 in
set_option maxHeartbeats 1000000 in
theorem l1Same_any (a b : Option Addr) (xs ys : List Int) (n m c1 c2 : Nat) (w : World) (hn : xs.length = n) (hm : ys.length = m) (ha : Sl w a xs) (hb : Sl w b ys) (hn2 : n ≤ 9223372036854775807) (hm2 : m ≤ 9223372036854775807) (bb : Bool) (hbb : bb = true ↔ xs = ys) :
    Calls Tryd.prog 52 #[.slice a n c1, .slice b m c2] w fun e w' => e = .returned (.bool bb) ∧ Below w.heap.size w w' := by
  have HA := hide ha
  have HB := hide hb
  have HN := hide hn
  have HM := hide hm
  have HBB := hide hbb
  clear ha hb hn hm hbb
  by_cases hnm : n = m
  · subst hnm
    go_enter Tryd.func52, Tryd.ntmps52
    go_wp2
    go_loopw [13] (fun i wr => ∃ k : Nat, k ≤ n ∧ i = .int .i64 k ∧ Hid (∀ j, j < k → xs.getD j 0 = ys.getD j 0) ∧ Below w.heap.size w wr) (fun i _ => n - (intOf i).toNat)
    case atStart => exact ⟨0, Nat.zero_le _, rfl, fun j hj => absurd hj (Nat.not_lt_zero _), Below.refl _ _⟩
    case round =>
      obtain ⟨k, hk, rfl, HK, hbel⟩ := hrel
      by_cases hlt : k < n
      · obtain ⟨b1, o1, rfl, h1⟩ := HA.out k (by rw [HN.out]; exact hlt)
        obtain ⟨b2, o2, rfl, h2⟩ := HB.out k (by rw [HM.out]; exact hlt)
        have g1 := (hbel.cell (p := ⟨b1, o1 + k, none⟩) (blk_lt h1)).trans h1
        have g2 := (hbel.cell (p := ⟨b2, o2 + k, none⟩) (blk_lt h2)).trans h2
        obtain ⟨x, hx⟩ : ∃ x, x = xs.getD k 0 := ⟨_, rfl⟩
        obtain ⟨y, hy⟩ : ∃ y, y = ys.getD k 0 := ⟨_, rfl⟩
        rw [← hx] at g1
        rw [← hy] at g2
        have hltI : (k : Int) < (n : Int) := by omega
        clear h1 h2
        by_cases hxy : x = y
        · have HK2 : Hid (∀ j, j < k + 1 → xs.getD j 0 = ys.getD j 0) := fun j hj => by
            by_cases e : j = k
            · subst e; rw [← hx, ← hy, hxy]
            · exact HK.out j (by omega)
          clear hx hy
          subst hxy
          go_wp2
          go_quiet (fail)
          go_wp2
          go_roundw
          case rel => exact ⟨k + 1, by omega, by go_num, HK2.out, below_drewN hbel _⟩
          case measure => simp [intOf]; omega
        · have hE : bb = false := by
            cases bb with
            | false => rfl
            | true =>
              have := HBB.out.1 rfl
              exact absurd (by rw [hx, hy, this]) hxy
          subst hE
          clear hx hy
          go_wp2
          go_quiet (fail)
          go_wp2
          go_ret
          exact ⟨rfl, below_drewN hbel _⟩
      · obtain rfl : k = n := by omega
        have hltI : ¬ (k : Int) < (k : Int) := by omega
        have hE : bb = true := HBB.out.2 (list_same HM.out HN.out (fun j hj => HK.out j hj))
        subst hE
        go_wp2
        go_ret
        exact ⟨rfl, hbel⟩
  · have hE : bb = false := by
      cases bb with
      | false => rfl
      | true =>
        have := HBB.out.1 rfl
        have h1 := HN.out
        rw [this, HM.out] at h1
        exact absurd h1.symm hnm
    subst hE
    have hI : ¬ (n : Int) = (m : Int) := by omega
    go_enter Tryd.func52, Tryd.ntmps52
    go_wp2
    go_ret
    exact ⟨rfl, Below.refl _ _⟩

end Go.Proofs.YtdnmklcnlndmhazDoor.L6
