/-
  Contracts: spec.l6Piece, spec.l1Same.
  Contracts: impl.RecoverPiece, spec.RecoverPiece.
  Lists of texts in memory. Nothing of the program's text is proved here but closed facts on its types.
  What stays where one block alone is written into. Nothing of the program's text is proved here.
  A list of texts that grows, and what is kept meanwhile. Nothing of the program's text is proved here but closed facts on its types.
  Of a log whose end is torn the first records are told; a piece that is recovered is recovered as it is. Nothing of the program's text is proved here.
  One record put behind the others.
  Small facts for the laws over logs: what is torn is small; texts that are told, and their front; the new log is good.
-/
import Derived.Test.YtbcljhafdpnjbabDoorBundle3
import Derived.Deep.QuietTactic
import Derived.BigQuiet
import Derived.Test.YtbcljhafdpnjbabDoorBundle2
import Derived.Test.YtbcljhafdpnjbabDoorBundle1
import Derived.Maps.AppendAt
namespace Go.Proofs.YtbcljhafdpnjbabDoor.L6
open Go.RowKit L1
set_option linter.unusedVariables false

set_option maxRecDepth 100000 in
set_option maxHeartbeats 2000000 in
theorem l6Piece_any (f : Int) (s : ByteArray) (w : World) (hs : s.size ≤ 1048576) :
    Calls Tryd.prog 56 #[.int .i64 f, .string s] w fun e w' => ∃ v, e = .returned (.agg #[.int .i64 f, .string s, v]) ∧ w'.ownsRow w.heap.size 3 1 v (ix s).length ((ix s).map (Value.int .i64)) ∧ Below w.heap.size w w' := by
  obtain ⟨N, hN⟩ : ∃ N, N = (ix s).length := ⟨_, rfl⟩
  rw [← hN]
  have C1 := hide (fun w => l6Starts_any s w hs)
  have hcl := cnt_le s
  obtain ⟨m, hm⟩ : ∃ m, m = cnt s := ⟨_, rfl⟩
  have C2 := hide (fun a cap w hs => l6Index_any s a m cap w hm.symm (by omega) hs)
  rw [← hm] at C1
  obtain ⟨k, hk⟩ : ∃ k, k = wh s := ⟨_, rfl⟩
  rw [← hk] at C1
  clear hk hm
  go_enter Tryd.func56, Tryd.ntmps56
  go_wp2_with fail
  refine (C1.out _).mono ?_
  rintro e w1 ⟨v1, rfl, ho1, hb1⟩
  obtain ⟨a1, q1, rfl, s1, _⟩ := own_form ho1
  have G1 : w1.heap[w.heap.size]? = some (.cells #[.int .i64 0, .string ByteArray.empty, .slice none 0 0] 50 (0, 0)) := (hb1.block w.heap.size (by simp)).trans (blk_new _ _)
  have B1 := hide (((Below.refl w.heap.size w).alloc (Nat.le_refl _) (.cells #[.int .i64 0, .string ByteArray.empty, .slice none 0 0] 50 (0, 0))).trans (hb1.mono (by simp)))
  have hlt : w.heap.size < w1.heap.size := (Array.getElem?_eq_some_iff.1 G1).1
  have C3 := hide (fun wx (hb : Below w1.heap.size w1 wx) => (C2.out a1 q1 wx (s1.below hb)).mono (R' := fun e w2 => ∃ a2 q2, e = .returned (.slice a2 N q2) ∧ (w2.ownsRow w1.heap.size 3 1 (.slice a2 N q2) N ((ix s).map (Value.int .i64)) ∧ Below w1.heap.size w1 w2) ∧ (w2.cell? ⟨w.heap.size, 0, none⟩ = some (.int .i64 0) ∧ w2.cell? ⟨w.heap.size, 1, none⟩ = some (.string ByteArray.empty) ∧ w2.cell? ⟨w.heap.size, 2, none⟩ = some (.slice none 0 0) ∧ w2.frozen? ⟨w.heap.size, 0, none⟩ = false ∧ w2.frozen? ⟨w.heap.size, 1, none⟩ = false ∧ w2.frozen? ⟨w.heap.size, 2, none⟩ = false)) (by
    rintro e w2 ⟨v2, rfl, ho2, hb2⟩
    have hb3 := hb.trans (hb2.mono hb.size)
    rw [← hN] at ho2
    obtain ⟨a2, q2, rfl, _, _⟩ := own_form ho2
    exact ⟨a2, q2, rfl, ⟨own_baseC ho2 hb.size, hb3⟩, blk3 ((hb3.block w.heap.size (Array.getElem?_eq_some_iff.1 G1).1).trans G1)⟩))
  clear ho1 hb1 s1 G1 C2 hN
  go_wp2_with fail
  refine (C3.out _ (Below.refl _ _)).mono ?_
  rintro e w2 ⟨a2, q2, rfl, ho2, c0, c1, c2, c3, c4, c5⟩
  have H2 := hide ho2
  clear ho2
  go_wp2
  refine bodyPost_ret (v := .agg #[.int .i64 f, .string s, .slice a2 N q2]) (by simp [results, Tryd.f56, go_sem, c0, c1, c2]) rfl ⟨_, rfl, ?_, ?_⟩
  · exact own_setC (own_setC (own_setC (own_baseC H2.out.1 (Nat.le_refl _)) ⟨_, _, none⟩ _ hlt) ⟨_, _, none⟩ _ hlt) ⟨_, _, none⟩ _ hlt |> fun h => own_baseC h (Nat.le_of_lt hlt)
  · exact (((B1.out.trans (H2.out.2.mono B1.out.size)).setCell (p := ⟨_, _, none⟩) (Nat.le_refl _) _).setCell (p := ⟨_, _, none⟩) (Nat.le_refl _) _).setCell (p := ⟨_, _, none⟩) (Nat.le_refl _) _

set_option maxRecDepth 100000 in
set_option maxHeartbeats 1000000 in
theorem l1Same_any (a b : Option Addr) (xs ys : List Int) (n m c1 c2 : Nat) (w : World) (hn : xs.length = n) (hm : ys.length = m) (ha : Sl w a xs) (hb : Sl w b ys) (hn2 : n ≤ 9223372036854775807) (hm2 : m ≤ 9223372036854775807) (bb : Bool) (hbb : bb = true ↔ xs = ys) :
    Calls Tryd.prog 75 #[.slice a n c1, .slice b m c2] w fun e w' => e = .returned (.bool bb) ∧ Below w.heap.size w w' := by
  have HA := hide ha
  have HB := hide hb
  have HN := hide hn
  have HM := hide hm
  have HBB := hide hbb
  clear ha hb hn hm hbb
  by_cases hnm : n = m
  · subst hnm
    go_enter Tryd.func75, Tryd.ntmps75
    go_wp2
    go_loopw [13] (fun i wr => ∃ k : Nat, k ≤ n ∧ i = .int .i64 k ∧ Hid (∀ j, j < k → xs.getD j 0 = ys.getD j 0) ∧ Below w.heap.size w wr) (fun i _ => n - (intOf i).toNat)
    case atStart => exact ⟨0, Nat.zero_le _, rfl, fun j hj => absurd hj (Nat.not_lt_zero _), Below.refl _ _⟩
    case round =>
      obtain ⟨k, hk, rfl, HK, hbel⟩ := hrel
      by_cases hlt : k < n
      · obtain ⟨b1, o1, rfl, h1⟩ := HA.out k (by rw [HN.out]; exact hlt)
        obtain ⟨b2, o2, rfl, h2⟩ := HB.out k (by rw [HM.out]; exact hlt)
        have g1 := (hbel.cell (p := ⟨b1, o1 + k, none⟩) (blk_lt h1)).trans h1
        have g2 := (hbel.cell (p := ⟨b2, o2 + k, none⟩) (blk_lt h2)).trans h2
        obtain ⟨x, hx⟩ : ∃ x, x = xs.getD k 0 := ⟨_, rfl⟩
        obtain ⟨y, hy⟩ : ∃ y, y = ys.getD k 0 := ⟨_, rfl⟩
        rw [← hx] at g1
        rw [← hy] at g2
        have hltI : (k : Int) < (n : Int) := by omega
        clear h1 h2
        by_cases hxy : x = y
        · have HK2 : Hid (∀ j, j < k + 1 → xs.getD j 0 = ys.getD j 0) := fun j hj => by
            by_cases e : j = k
            · subst e; rw [← hx, ← hy, hxy]
            · exact HK.out j (by omega)
          clear hx hy
          subst hxy
          go_wp2
          go_quiet (fail)
          go_wp2
          go_roundw
          case rel => exact ⟨k + 1, by omega, by go_num, HK2.out, below_drewN hbel _⟩
          case measure => simp [intOf]; omega
        · have hE : bb = false := by
            cases bb with
            | false => rfl
            | true =>
              have := HBB.out.1 rfl
              exact absurd (by rw [hx, hy, this]) hxy
          subst hE
          clear hx hy
          go_wp2
          go_quiet (fail)
          go_wp2
          go_ret
          exact ⟨rfl, below_drewN hbel _⟩
      · obtain rfl : k = n := by omega
        have hltI : ¬ (k : Int) < (k : Int) := by omega
        have hE : bb = true := HBB.out.2 (list_same HM.out HN.out (fun j hj => HK.out j hj))
        subst hE
        go_wp2
        go_ret
        exact ⟨rfl, hbel⟩
  · have hE : bb = false := by
      cases bb with
      | false => rfl
      | true =>
        have := HBB.out.1 rfl
        have h1 := HN.out
        rw [this, HM.out] at h1
        exact absurd h1.symm hnm
    subst hE
    have hI : ¬ (n : Int) = (m : Int) := by omega
    go_enter Tryd.func75, Tryd.ntmps75
    go_wp2
    go_ret
    exact ⟨rfl, Below.refl _ _⟩

end Go.Proofs.YtbcljhafdpnjbabDoor.L6

namespace Go.Proofs.YtbcljhafdpnjbabDoor.L6
open Go.RowKit L1
set_option linter.unusedVariables false

/-- A piece that a call hands back, its Index in new memory, and two more. -/
def RetP (w : World) (p : Pc) (left : Int) (ok : Bool) (e : Ending) (w' : World) : Prop :=
  ∃ a q, e = .returned (.tuple #[.agg #[.int .i64 p.f, .string p.s, .slice a p.x.length q], .int .i64 left, .bool ok]) ∧ w'.ownsRow w.heap.size 3 1 (.slice a p.x.length q) p.x.length (p.x.map (Value.int .i64)) ∧ Below w.heap.size w w'
/-- What RecoverPiece answers. -/
structure RecIs (f : Int) (s : ByteArray) (p : Pc) (left : Int) (ok : Bool) : Prop where
  yes : 0 ≤ f ∧ f ≤ 1000 ∧ s.size ≤ 60 → ok = true ∧ p = ⟨f, s.extract 0 (wh s), ix s⟩ ∧ left = (s.size : Int) - (wh s : Int)
  no : ¬ (0 ≤ f ∧ f ≤ 1000 ∧ s.size ≤ 60) → ok = false ∧ p = eC ∧ left = 0
theorem rec_is (f : Int) (s : ByteArray) : ∃ p left ok, RecIs f s p left ok ∧ p.x.length ≤ 60 := by
  by_cases h : 0 ≤ f ∧ f ≤ 1000 ∧ s.size ≤ 60
  · refine ⟨_, _, true, ⟨fun _ => ⟨rfl, rfl, rfl⟩, fun h2 => absurd h h2⟩, ?_⟩
    show (ix s).length ≤ 60
    unfold ix
    rw [ixk_len]
    have := cnt_le s
    omega
  · exact ⟨_, _, false, ⟨fun h2 => absurd h2 h, fun _ => ⟨rfl, rfl, rfl⟩⟩, Nat.zero_le _⟩

set_option maxRecDepth 100000 in
set_option maxHeartbeats 1000000 in
theorem implRecover_any (f : Int) (s : ByteArray) (w : World) (hs : s.size ≤ 1048576) (ht : Tab w) (p : Pc) (left : Int) (ok : Bool) (hr : RecIs f s p left ok) :
    Calls Tryd.prog 26 #[.int .i64 f, .string s] w (RetP w p left ok) := by
  by_cases h : 0 ≤ f ∧ f ≤ 1000 ∧ s.size ≤ 60
  · obtain ⟨rfl, rfl, rfl⟩ := hr.yes h
    have C := hide (fun wx (hb : Below w.heap.size w wx) => (wholePiece_any f s wx hs (ht.below hb)).mono (R' := fun e w2 => ∃ a2 q2, e = .returned (.agg #[.int .i64 f, .string (s.extract 0 (wh s)), .slice a2 (ix s).length q2]) ∧ w2.ownsRow wx.heap.size 3 1 (.slice a2 (ix s).length q2) (ix s).length ((ix s).map (Value.int .i64)) ∧ Below wx.heap.size wx w2) (by
      rintro e w2 ⟨v2, rfl, ho2, hb2⟩
      obtain ⟨a2, q2, rfl, _, _⟩ := own_form ho2
      exact ⟨a2, q2, rfl, ho2, hb2⟩))
    have hw := wh_le s
    unfold RetP
    simp only
    have hys : (s.extract 0 (wh s)).size = wh s := by simp; omega
    obtain ⟨l, hl⟩ : ∃ l, l = ix s := ⟨_, rfl⟩
    rw [← hl] at C ⊢
    obtain ⟨N, hN⟩ : ∃ N, N = l.length := ⟨_, rfl⟩
    rw [← hN] at C ⊢
    obtain ⟨y, hy⟩ : ∃ y, y = s.extract 0 (wh s) := ⟨_, rfl⟩
    rw [← hy] at C hys ⊢
    obtain ⟨k, hk⟩ : ∃ k, k = wh s := ⟨_, rfl⟩
    rw [← hk] at hys hw ⊢
    have h1 : ¬ f < 0 := by omega
    have h2 : ¬ (1000 : Int) < f := by omega
    have h3 : ¬ (60 : Int) < (s.size : Int) := by omega
    have hwr : IntKind.i64.wrap ((s.size : Int) - (k : Int)) = (s.size : Int) - (k : Int) := wrap6 (by omega) (by omega)
    clear hr ht h hl hN hy hk
    go_enter Tryd.func26, Tryd.ntmps26
    go_wp2_with fail
    refine (C.out _ ((Below.refl _ _).alloc (Nat.le_refl _) _)).mono ?_
    rintro e w1 ⟨a2, q2, rfl, ho, hb⟩
    obtain ⟨c0, c1, c2, c3, c4, c5⟩ := blk3 ((hb.block w.heap.size (by simp)).trans (blk_new w (.cells #[.int .i64 0, .string ByteArray.empty, .slice none 0 0] 50 (0, 0))))
    have hlt : w.heap.size < w1.heap.size := by have := hb.size; simp at this; omega
    have B1 := hide (((Below.refl w.heap.size w).alloc (Nat.le_refl _) (.cells #[.int .i64 0, .string ByteArray.empty, .slice none 0 0] 50 (0, 0))).trans (hb.mono (by simp)))
    have ho' : w1.ownsRow (w.heap.size + 1) 3 1 (.slice a2 N q2) N (l.map (Value.int .i64)) := by
      simp only [World.size_alloc] at ho
      exact ho
    have O := hide ho'
    obtain ⟨W, hW⟩ : ∃ W, W = w1.alloc (.cells #[.int .i64 f, .string y, .slice a2 N q2] 50 (0, 0)) := ⟨_, rfl⟩
    have OW : Hid (W.ownsRow (w.heap.size + 1) 3 1 (.slice a2 N q2) N (l.map (Value.int .i64))) := by show W.ownsRow _ _ _ _ _ _; rw [hW]; exact own_belowC O.out ((Below.refl _ _).alloc (Nat.le_refl _) _)
    have BW : Hid (Below w.heap.size w W) := by show Below _ _ _; rw [hW]; exact B1.out.alloc B1.out.size _
    obtain ⟨d0, d1, d2, _, _, _⟩ := blk3 (show W.heap[w1.heap.size]? = some (.cells #[.int .i64 f, .string y, .slice a2 N q2] 50 (0, 0)) by rw [hW]; exact blk_new _ _)
    have hbW : Below w1.heap.size w1 W := by rw [hW]; exact (Below.refl _ _).alloc (Nat.le_refl _) _
    obtain ⟨g0, g1, g2, g3, g4, g5⟩ := blk3 ((hbW.block w.heap.size hlt).trans ((hb.block w.heap.size (by simp)).trans (blk_new w (.cells #[.int .i64 0, .string ByteArray.empty, .slice none 0 0] 50 (0, 0)))))
    have hne : ¬ w1.heap.size = w.heap.size := by omega
    clear ho hb ho' hbW O c0 c1 c2 c3 c4 c5 B1
    go_wp2
    rw [← hW]
    clear hW
    go_region
    go_wp2
    refine bodyPost_ret (v := .tuple #[.agg #[.int .i64 f, .string y, .slice a2 N q2], .int .i64 ((s.size : Int) - (k : Int)), .bool true]) (by simp [results, Tryd.f26, go_sem, g0, g1, g2]) rfl ⟨_, _, rfl, ?_, ?_⟩
    · have z : w.heap.size < w.heap.size + 1 := by omega
      exact own_belowC (own_baseC (b1 := w.heap.size + 1) (own_setC (own_setC (own_setC OW.out ⟨_, _, none⟩ _ z) ⟨_, _, none⟩ _ z) ⟨_, _, none⟩ _ z) (by omega)) (Below.refl _ _).drew
    · exact (((BW.out.setCell (p := ⟨_, _, none⟩) (Nat.le_refl _) _).setCell (p := ⟨_, _, none⟩) (Nat.le_refl _) _).setCell (p := ⟨_, _, none⟩) (Nat.le_refl _) _).drew
  · obtain ⟨rfl, rfl, rfl⟩ := hr.no h
    unfold RetP eC
    simp only [List.length_nil, List.map_nil]
    clear hr ht
    by_cases h1 : f < 0
    · clear h
      go_enter Tryd.func26, Tryd.ntmps26
      go_wp2
      refine bodyPost_ret (v := .tuple #[.agg #[.int .i64 0, .string ByteArray.empty, .slice none 0 0], .int .i64 0, .bool false]) (by simp [results, Tryd.f26, go_sem]; rfl) rfl ⟨none, 0, rfl, World.ownsRow_nil _ _ _ _, (Below.refl _ _).alloc (Nat.le_refl _) _⟩
    · by_cases h2 : (1000 : Int) < f
      · clear h
        go_enter Tryd.func26, Tryd.ntmps26
        go_wp2
        refine bodyPost_ret (v := .tuple #[.agg #[.int .i64 0, .string ByteArray.empty, .slice none 0 0], .int .i64 0, .bool false]) (by simp [results, Tryd.f26, go_sem]; rfl) rfl ⟨none, 0, rfl, World.ownsRow_nil _ _ _ _, (Below.refl _ _).alloc (Nat.le_refl _) _⟩
      · have h3 : (60 : Int) < (s.size : Int) := by omega
        clear h
        go_enter Tryd.func26, Tryd.ntmps26
        go_wp2
        refine bodyPost_ret (v := .tuple #[.agg #[.int .i64 0, .string ByteArray.empty, .slice none 0 0], .int .i64 0, .bool false]) (by simp [results, Tryd.f26, go_sem]; rfl) rfl ⟨none, 0, rfl, World.ownsRow_nil _ _ _ _, (Below.refl _ _).alloc (Nat.le_refl _) _⟩

set_option maxRecDepth 100000 in
set_option maxHeartbeats 1000000 in
theorem specRecover_any (f : Int) (s : ByteArray) (w : World) (hs : s.size ≤ 1048576) (p : Pc) (left : Int) (ok : Bool) (hr : RecIs f s p left ok) :
    Calls Tryd.prog 27 #[.int .i64 f, .string s] w (RetP w p left ok) := by
  by_cases h : 0 ≤ f ∧ f ≤ 1000 ∧ s.size ≤ 60
  · obtain ⟨rfl, rfl, rfl⟩ := hr.yes h
    have hw := wh_le s
    have C1 := hide (fun w => l6Starts_any s w hs)
    have hcl := cnt_le s
    have hix := whole_ix s
    have CI := hide (fun w => l1In_any f 0 1000 w true (by simp; omega))
    have q := fun w => slice_to w s (wh s) hw
    have hys : (s.extract 0 (wh s)).size ≤ 1048576 := by simp; omega
    obtain ⟨m, hm⟩ : ∃ m, m = cnt s := ⟨_, rfl⟩
    rw [← hm] at C1
    unfold RetP
    simp only
    have C2 := hide (fun wx => (l6Piece_any f (s.extract 0 (wh s)) wx hys).mono (R' := fun e w2 => ∃ a2 q2, e = .returned (.agg #[.int .i64 f, .string (s.extract 0 (wh s)), .slice a2 (ix s).length q2]) ∧ w2.ownsRow wx.heap.size 3 1 (.slice a2 (ix s).length q2) (ix s).length ((ix s).map (Value.int .i64)) ∧ Below wx.heap.size wx w2) (by
      rintro e w2 ⟨v2, rfl, ho2, hb2⟩
      rw [hix] at ho2
      obtain ⟨a2, q2, rfl, _, _⟩ := own_form ho2
      exact ⟨a2, q2, rfl, ho2, hb2⟩))
    obtain ⟨l, hl⟩ : ∃ l, l = ix s := ⟨_, rfl⟩
    rw [← hl] at C2 ⊢
    obtain ⟨N, hN⟩ : ∃ N, N = l.length := ⟨_, rfl⟩
    rw [← hN] at C2 ⊢
    obtain ⟨y, hy⟩ : ∃ y, y = s.extract 0 (wh s) := ⟨_, rfl⟩
    rw [← hy] at C2 q ⊢
    obtain ⟨k, hk⟩ : ∃ k, k = wh s := ⟨_, rfl⟩
    rw [← hk] at hw C1 q ⊢
    have h3 : ¬ (60 : Int) < (s.size : Int) := by omega
    clear hr h hl hN hy hk hys hix hm hcl
    go_enter Tryd.func27, Tryd.ntmps27
    go_wp2_with fail
    refine (CI.out _).mono ?_
    rintro e w0 ⟨rfl, rfl⟩
    go_wp2_with fail
    refine (C1.out _).mono ?_
    rintro e w1 ⟨v1, rfl, ho1, hb1⟩
    obtain ⟨a1, q1, rfl, s1, _⟩ := own_form ho1
    have G1 := (hb1.block w.heap.size (by simp)).trans (blk_new w (.cells #[.int .i64 0, .string ByteArray.empty, .slice none 0 0] 50 (0, 0)))
    have hlt : w.heap.size < w1.heap.size := by have := hb1.size; simp at this; omega
    have B1 := hide (((Below.refl w.heap.size w).alloc (Nat.le_refl _) (.cells #[.int .i64 0, .string ByteArray.empty, .slice none 0 0] 50 (0, 0))).trans (hb1.mono (by simp)))
    have HG := hide G1
    clear ho1 hb1 s1 G1
    go_wp2_with fail
    refine (C2.out _).mono ?_
    rintro e w2 ⟨a2, q2, rfl, ho, hb⟩
    obtain ⟨g0, g1, g2, g3, g4, g5⟩ := blk3 ((hb.block w.heap.size hlt).trans HG.out)
    have B2 := hide (B1.out.trans (hb.mono B1.out.size))
    have O := hide ho
    clear ho hb
    go_wp2
    refine bodyPost_ret (v := .tuple #[.agg #[.int .i64 f, .string y, .slice a2 N q2], .int .i64 ((s.size : Int) - (k : Int)), .bool true]) (by simp [results, Tryd.f27, go_sem, g0, g1, g2]) rfl ⟨_, _, rfl, ?_, ?_⟩
    · exact own_baseC (b1 := w1.heap.size) (own_setC (own_setC (own_setC O.out ⟨_, _, none⟩ _ hlt) ⟨_, _, none⟩ _ hlt) ⟨_, _, none⟩ _ hlt) (by omega)
    · exact ((B2.out.setCell (p := ⟨_, _, none⟩) (Nat.le_refl _) _).setCell (p := ⟨_, _, none⟩) (Nat.le_refl _) _).setCell (p := ⟨_, _, none⟩) (Nat.le_refl _) _
  · obtain ⟨rfl, rfl, rfl⟩ := hr.no h
    unfold RetP eC
    simp only [List.length_nil, List.map_nil]
    clear hr
    by_cases h1 : 0 ≤ f ∧ f ≤ 1000
    · have CI := hide (fun w => l1In_any f 0 1000 w true (by simp; omega))
      have h3 : (60 : Int) < (s.size : Int) := by omega
      clear h h1
      go_enter Tryd.func27, Tryd.ntmps27
      go_wp2_with fail
      refine (CI.out _).mono ?_
      rintro e w0 ⟨rfl, rfl⟩
      go_wp2
      refine bodyPost_ret (v := .tuple #[.agg #[.int .i64 0, .string ByteArray.empty, .slice none 0 0], .int .i64 0, .bool false]) (by simp [results, Tryd.f27, go_sem]; rfl) rfl ⟨none, 0, rfl, World.ownsRow_nil _ _ _ _, (Below.refl _ _).alloc (Nat.le_refl _) _⟩
    · have CI := hide (fun w => l1In_any f 0 1000 w false (by simp; omega))
      clear h h1
      go_enter Tryd.func27, Tryd.ntmps27
      go_wp2_with fail
      refine (CI.out _).mono ?_
      rintro e w0 ⟨rfl, rfl⟩
      go_wp2
      refine bodyPost_ret (v := .tuple #[.agg #[.int .i64 0, .string ByteArray.empty, .slice none 0 0], .int .i64 0, .bool false]) (by simp [results, Tryd.f27, go_sem]; rfl) rfl ⟨none, 0, rfl, World.ownsRow_nil _ _ _ _, (Below.refl _ _).alloc (Nat.le_refl _) _⟩
end Go.Proofs.YtbcljhafdpnjbabDoor.L6

namespace Go.Proofs.YtbcljhafdpnjbabDoor.L6
open Go.RowKit L1
set_option linter.unusedVariables false

theorem info_str6 : (Tryd.prog.info? 9).map (fun i => (i.zero, i.size, i.bytes)) = some (some (.string ByteArray.empty), 1, 16) := by kernel_rfl
abbrev e0 : ByteArray := ByteArray.empty
/-- A list of texts lies in memory. -/
def SlT (w : World) (a : Option Addr) (xs : List ByteArray) : Prop := ∀ i, i < xs.length → ∃ b off, a = some ⟨b, off, none⟩ ∧ w.cell? ⟨b, off + i, none⟩ = some (.string (xs.getD i e0))
theorem SlT.below {w w' : World} {a : Option Addr} {xs : List ByteArray} (h : SlT w a xs) (hb : Below w.heap.size w w') : SlT w' a xs := fun i hi => by
  obtain ⟨b, off, ha, hc⟩ := h i hi
  exact ⟨b, off, ha, (hb.cell (p := ⟨b, off + i, none⟩) (blk_lt hc)).trans hc⟩
theorem slT_base {w w' : World} {a : Option Addr} {xs : List ByteArray} {base : Nat} (h : SlT w a xs) (hb : Below base w w') (hlt : ∀ x, a = some x → x.block < base) : SlT w' a xs := fun i hi => by
  obtain ⟨b, off, ha, hc⟩ := h i hi
  exact ⟨b, off, ha, (hb.cell (p := ⟨b, off + i, none⟩) (hlt ⟨b, off, none⟩ ha)).trans hc⟩
abbrev mapT (xs : List ByteArray) : List Value := xs.map Value.string
theorem mapT_get (xs : List ByteArray) (i : Nat) (h : i < xs.length) : (mapT xs)[i]? = some (.string (xs.getD i e0)) := by
  rw [List.getElem?_map, List.getElem?_eq_getElem h]
  simp [List.getD, List.getElem?_eq_getElem h]
abbrev OwT (w : World) (base : Nat) (v : Value) (xs : List ByteArray) : Prop := w.ownsRow base 9 1 v xs.length (mapT xs)
theorem own_formT {w : World} {base n : Nat} {v : Value} {xs : List ByteArray} (h : w.ownsRow base 9 1 v n (mapT xs)) : ∃ a cap, v = .slice a n cap ∧ SlT w a xs ∧ xs.length = n := by
  have hl := h.1
  simp at hl
  rcases h.2 with ⟨hv, h0⟩ | ⟨g, cap, cur, hv, _⟩
  · subst h0
    exact ⟨none, 0, hv, fun i hi => by omega, hl⟩
  · subst hv
    refine ⟨_, cap, rfl, fun i hi => ?_, hl⟩
    have := h.cells (g := g) rfl i _ (mapT_get xs i hi)
    rw [addr_add] at this
    exact ⟨g, 0, rfl, by simpa using this⟩
theorem own_slT {w : World} {base n cap : Nat} {a : Option Addr} {xs : List ByteArray} (h : w.ownsRow base 9 1 (.slice a n cap) n (mapT xs)) : SlT w a xs := by
  obtain ⟨b, q, e, s, _⟩ := own_formT h
  cases e
  exact s
theorem own_grownT {w w' : World} {base c n : Nat} {t : TypeId} {v : Value} {xs : List Value} {r : Option Nat} (h : w.ownsRow base t c v n xs) (hg : w.grownBy w' r) (hne : ∀ g, v.ownBlock = some g → r ≠ some g) : w'.ownsRow base t c v n xs := by
  refine ⟨h.1, ?_⟩
  rcases h.2 with h0 | ⟨g, cap, cur, hv, hb, hh, rest⟩
  · exact .inl h0
  · refine .inr ⟨g, cap, cur, hv, hb, ?_, rest⟩
    rw [hg.block g (Array.getElem?_eq_some_iff.1 hh).1 (fun e => hne g (by rw [hv]; rfl) e.symm)]
    exact hh
theorem mapT_one (xs : List ByteArray) : ∀ u ∈ mapT xs, u.oneCell' = true := fun u hu => by
  obtain ⟨x, _, rfl⟩ := List.mem_map.1 hu
  rfl
theorem cell_two_newT (w : World) (g : Nat) (hg : w.heap.size = g) (a b : Value) (t : TypeId) : ∀ j u, [a, b][j]? = some u → (w.alloc (.cells #[a, b] t)).cell? ((⟨g, 0, none⟩ : Addr).add j) = some u := by
  subst hg
  intro j u h
  rw [addr_add]
  match j, h with
  | 0, h => simp at h; subst h; simp
  | 1, h => simp at h; subst h; simp
  | j + 2, h => simp at h
theorem cell_one_newT (w : World) (g : Nat) (hg : w.heap.size = g) (a : Value) (t : TypeId) : ∀ j u, [a][j]? = some u → (w.alloc (.cells #[a] t)).cell? ((⟨g, 0, none⟩ : Addr).add j) = some u := by
  subst hg
  intro j u h
  rw [addr_add]
  match j, h with
  | 0, h => simp at h; subst h; simp
  | j + 1, h => simp at h
theorem SlT.at' {w : World} {a : Option Addr} {xs : List ByteArray} (h : SlT w a xs) (i : Nat) (hi : i < xs.length) : ∃ b off, a = some ⟨b, off, none⟩ ∧ w.cell? ⟨b, off + i, none⟩ = some (.string (xs.getD i ByteArray.empty)) := h i hi
end Go.Proofs.YtbcljhafdpnjbabDoor.L6

namespace Go.Proofs.YtbcljhafdpnjbabDoor.L6
open Go.RowKit L1
set_option linter.unusedVariables false

theorem grown_below {w w' : World} {r : Option Nat} (hb : Below w.heap.size w w') : w.grownBy w' r := ⟨hb.os, hb.tape, hb.output, hb.size, fun k hk _ => hb.block k hk⟩
theorem grown_cell {w w' : World} {r : Option Nat} (hg : w.grownBy w' r) (p : Addr) {v : Value} (h : w.cell? p = some v) (hne : some p.block ≠ r) : w'.cell? p = some v := by
  have hb : p.block < w.heap.size := by
    by_cases hb : p.block < w.heap.size
    · exact hb
    · simp [World.cell?, Array.getElem?_eq_none (show w.heap.size ≤ p.block by omega)] at h
  have := hg.block p.block hb hne
  rw [← h]
  simp only [World.cell?, this]
theorem sl_grown {w w' : World} {r : Option Nat} {a : Option Addr} {xs : List Int} (h : Sl w a xs) (hg : w.grownBy w' r) (hne : ∀ x, a = some x → some x.block ≠ r) : Sl w' a xs := fun i hi => by
  obtain ⟨b, off, ha, hc⟩ := h i hi
  exact ⟨b, off, ha, grown_cell hg ⟨b, off + i, none⟩ hc (hne ⟨b, off, none⟩ ha)⟩

end Go.Proofs.YtbcljhafdpnjbabDoor.L6

namespace Go.Proofs.YtbcljhafdpnjbabDoor.L6
open Go.RowKit L1
set_option linter.unusedVariables false

theorem alk_len_le {L : List Pc} {B : Int} (h : ∀ j, j < L.length → cnt (gc L j).s ≤ 60) : ∀ i, i ≤ L.length → (alk L B i).length ≤ 60 * i
  | 0, _ => by simp [alk]
  | i + 1, hi => by
    have h1 := alk_len_le (B := B) h i (by omega)
    have h2 := fl_len B (gc L i).f (gc L i).s (cnt (gc L i).s)
    have h3 := h i (by omega)
    show (alk L B i ++ fl B (gc L i).f (gc L i).s (cnt (gc L i).s)).length ≤ _
    rw [List.length_append]
    omega
/-- What is kept while a list of texts grows: blocks between two numbers, and one cell. -/
structure Gro (lo hi g : Nat) (B : Int) (w1 : World) (v : Value) (xs : List ByteArray) (w : World) : Prop where
  own : w.ownsRow (g + 1) 9 1 v xs.length (mapT xs)
  out : ∀ b, v.ownBlock = some b → b < lo ∨ hi ≤ b
  kept : ∀ k, lo ≤ k → k < hi → w.heap[k]? = w1.heap[k]?
  cell : w.cell? ⟨g, 1, none⟩ = some (.int .i64 B)
  size : w1.heap.size ≤ w.heap.size
  bel : Below g w1 w
theorem Gro.step {lo hi g : Nat} {B : Int} {w1 w w6 : World} {v v6 : Value} {xs : List ByteArray} {y : ByteArray} {ob : Obj} (h : Gro lo hi g B w1 v xs w) (hhi : hi ≤ w1.heap.size) (hg : g < w1.heap.size)
    (h6 : w6.ownsRow (g + 1) 9 1 v6 (xs.length + 1) (mapT xs ++ [.string y])) (g6 : (w.alloc ob).grownBy w6 v.ownBlock) (hat : v6.ownBlock = v.ownBlock ∨ v6.ownBlock = some (w.alloc ob).heap.size) : Gro lo hi g B w1 v6 (xs ++ [y]) w6 := by
  have hz := h.size
  have hal := (Below.refl w.heap.size w).alloc (Nat.le_refl _) ob
  refine ⟨?_, fun b hb => ?_, fun k h1 h2 => ?_, ?_, ?_, ?_⟩
  · rw [List.length_append]
    unfold mapT
    rw [List.map_append]
    exact h6
  · rcases hat with e | e
    · exact h.out b (by rw [← e]; exact hb)
    · rw [e] at hb
      simp at hb
      omega
  · rw [g6.block k (by simp; omega) (fun e => by have := h.out k e.symm; omega), hal.block k (by omega)]
    exact h.kept k h1 h2
  · refine grown_cell g6 ⟨g, 1, none⟩ (Go.Lib.cell?_alloc_some ob h.cell) (fun e => ?_)
    have := (own_ltC h.own g e.symm).1
    omega
  · have := g6.size
    simp at this
    omega
  · exact ((h.bel.alloc (by omega) ob).grown g6 (by simp; omega) (fun k hk => by have := (own_ltC h.own k hk).1; omega))
open Classical in
/-- What AllOf answers. -/
noncomputable def allRes (L : List Pc) (B : Int) : Option (List ByteArray) := if GoodG L B then some (allG L B) else none
theorem allRes_len (L : List Pc) (B : Int) : ((allRes L B).getD []).length ≤ 1200 := by
  unfold allRes
  split
  · rename_i h
    have h1 := alk_len_le (L := L) (B := B) (fun j hj => good_cnt (h.ps j hj).1) L.length (Nat.le_refl _)
    have h2 := h.many
    simp only [Option.getD_some]
    show (alk L B L.length).length ≤ _
    omega
  · simp
/-- Texts that a call hands back, in new memory, and whether there are some. -/
def RetT (w : World) (r : Option (List ByteArray)) (e : Ending) (w' : World) : Prop :=
  ∃ v, e = .returned (.tuple #[v, .bool r.isSome]) ∧ w'.ownsRow w.heap.size 9 1 v (r.getD []).length (mapT (r.getD [])) ∧ Below w.heap.size w w'
theorem retT_none {w w' : World} (hb : Below w.heap.size w w') : RetT w none (.returned (.tuple #[.slice none 0 0, .bool false])) w' := ⟨_, rfl, World.ownsRow_nil _ _ _ _, hb⟩
end Go.Proofs.YtbcljhafdpnjbabDoor.L6

namespace Go.Proofs.YtbcljhafdpnjbabDoor.L6
open Go.RowKit L1
set_option linter.unusedVariables false

theorem cut_twice {s t u : ByteArray} {b : Nat} (ht : t = s.extract 0 b) (hu : u = t.extract 0 (wh t)) : cnt u = cnt t ∧ cnt u ≤ cnt s ∧ ∀ j, j < cnt u → rtx u (pl u 0 j) = rtx s (pl s 0 j) := by
  have h1 := front_ext s b
  have h3 := front_ext t (wh t)
  rw [← ht] at h1
  rw [← hu] at h3
  have hc : cnt u = cnt t := by rw [hu]; exact whole_cnt t
  have h4 := h1.1
  exact ⟨hc, by omega, fun j hj => (h3.2 j hj).symm.trans (h1.2 j (by omega)).symm⟩
/-- What is known of the piece that is left. -/
structure LeftP (p q : Pc) (u : ByteArray) (b : Int) : Prop where
  f : q.f = p.f
  t : u = p.s.extract 0 (p.s.size - b.toNat)
  s : q.s = u.extract 0 (wh u)
  good : GoodP q
theorem left_of {p : Pc} (b : Int) (h : GoodP p) : ∃ q t, q = tornP p b ∧ t = tornS p b ∧ LeftP p q t b := by
  have hg := tornP_good b h
  obtain ⟨q, hq⟩ : ∃ q, q = tornP p b := ⟨_, rfl⟩
  obtain ⟨t, ht⟩ : ∃ t, t = tornS p b := ⟨_, rfl⟩
  rw [← hq] at hg
  refine ⟨q, t, hq, ht, by rw [hq, tornP], by rw [ht, tornS], ?_, hg⟩
  rw [hq, ht, tornP]
theorem torn_all {L : List Pc} {B b : Int} (h : TearOk L B b) : ∃ q t, q = tornP (lastP L) b ∧ t = tornS (lastP L) b ∧ GoodG (L.set (L.length - 1) q) B ∧ allG (L.set (L.length - 1) q) B <+: allG L B ∧ (b = 0 → (t.size : Int) - (wh t : Int) = 0 ∧ (allG (L.set (L.length - 1) q) B).length = (allG L B).length) := by
  have hone := h.1.one
  have hl := (h.1.ps (L.length - 1) (by omega)).1
  have hB := h.2.2
  obtain ⟨p, hp⟩ : ∃ p, p = gc L (L.length - 1) := ⟨_, rfl⟩
  have hp' : lastP L = p := hp.symm
  rw [← hp] at hl
  rw [hp'] at hB ⊢
  obtain ⟨q, t, hq, ht, hx⟩ := left_of b hl
  refine ⟨q, t, hq, ht, ?_⟩
  rw [← ht] at hB
  obtain ⟨c1, c2, c3⟩ := cut_twice hx.t hx.s
  have hgood : GoodG (L.set (L.length - 1) q) B := good_set h.1 (by rw [hx.f, hp]) hx.good (by rw [← hp]; exact c2) (by rw [hx.f, c1]; exact hB)
  obtain ⟨e1, e2⟩ := all_set (B := B) (p := q) hone
  have hpre : allG (L.set (L.length - 1) q) B <+: allG L B := by
    rw [e1, e2, ← hp]
    refine (List.prefix_append_right_inj _).2 ?_
    rw [hx.f, fl_congr (s := q.s) (t := p.s) (cnt q.s) c3]
    obtain ⟨m, hm⟩ : ∃ m, cnt p.s = cnt q.s + m := ⟨_, (Nat.add_sub_of_le c2).symm⟩
    rw [hm]
    exact fl_front _ _ _ _ _
  refine ⟨hgood, hpre, fun hb => ?_⟩
  have et : t = p.s := by
    rw [hx.t, hb]
    exact extract_all _
  have hw : wh p.s = p.s.size := hl.2.1
  have es : q.s = p.s := by
    rw [hx.s, et, hw]
    exact extract_all _
  refine ⟨by rw [et, hw]; omega, ?_⟩
  rw [e1, e2, ← hp, hx.f, es]
/-- What the law asks of a log whose end was torn. -/
structure TornLaw (L : List Pc) (B b : Int) (L' : List Pc) (B' left : Int) : Prop where
  g : GoodG L B
  g' : GoodG L' B'
  le : (allG L' B').length ≤ (allG L B).length
  front : (allG L B).take (allG L' B').length = allG L' B'
  none : b = 0 → left = 0 ∧ (allG L' B').length = (allG L B).length
theorem tornLaw {L L' : List Pc} {B b B' left : Int} (h : TearIs L B b L' B' left true) : TornLaw L B b L' B' left := by
  classical
  by_cases ht : TearOk L B b
  · obtain ⟨_, h1, h2, h3⟩ := h.yes ht
    obtain ⟨q, t, hq, hqt, g1, g2, g3⟩ := torn_all ht
    rw [← hq] at h1
    rw [← hqt] at h3
    rw [h1, h2, h3]
    exact ⟨ht.1, g1, g2.length_le, (List.prefix_iff_eq_take.1 g2).symm, g3⟩
  · have := (h.no ht).1
    cases this
/-- What the law asks of a piece that was recovered. -/
structure RecLaw (f : Int) (s : ByteArray) (p : Pc) (left : Int) : Prop where
  f0 : 0 ≤ f ∧ f ≤ 1000
  size : (p.s.size : Int) + left = (s.size : Int)
  le : p.s.size ≤ s.size
  front : s.extract 0 p.s.size = p.s
  again : RecIs f p.s p 0 true
  few : p.s.size ≤ 60
theorem recLaw {f left : Int} {s : ByteArray} {p : Pc} (h : RecIs f s p left true) : RecLaw f s p left := by
  classical
  by_cases hc : 0 ≤ f ∧ f ≤ 1000 ∧ s.size ≤ 60
  · obtain ⟨_, h1, h2⟩ := h.yes hc
    have hw := wh_le s
    obtain ⟨u, hu⟩ : ∃ u, u = s.extract 0 (wh s) := ⟨_, rfl⟩
    have hz : u.size = wh s := by rw [hu]; simp; omega
    have hwu : wh u = wh s := by rw [hu]; exact whole_wh s
    have hxu : ix u = ix s := by rw [hu]; exact whole_ix s
    have hall : u.extract 0 (wh u) = u := by rw [hwu, ← hz]; exact extract_all u
    rw [← hu] at h1
    have hps : p.s = u := by rw [h1]
    refine ⟨⟨hc.1, hc.2.1⟩, ?_, ?_, ?_, ?_, ?_⟩
    · rw [hps, hz, h2]
      omega
    · rw [hps]
      omega
    · rw [hps, hz]
      exact hu.symm
    · rw [hps]
      refine ⟨fun _ => ⟨rfl, ?_, ?_⟩, fun hn => absurd ⟨hc.1, hc.2.1, by omega⟩ hn⟩
      · rw [h1, hall, hxu]
      · rw [hwu, hz]
        omega
    · rw [hps]
      omega
  · have := (h.no hc).1
    cases this
end Go.Proofs.YtbcljhafdpnjbabDoor.L6

namespace Go.Proofs.YtbcljhafdpnjbabDoor.L6
open Go.RowKit L1
set_option linter.unusedVariables false

theorem bts_nums6 (l : List Int) (h : ∀ x ∈ l, 0 ≤ x ∧ x < 256) : bts (strOfNums l) 0 = l := by
  simp only [bts, strOfNums, List.drop_zero, List.map_map]
  have e : ∀ m : List Int, (∀ x ∈ m, 0 ≤ x ∧ x < 256) → m.map ((fun c : UInt8 => (c.toNat : Int)) ∘ fun n : Int => UInt8.ofNat n.toNat) = m := by
    intro m
    induction m with
    | nil => intro _; rfl
    | cons x m ih =>
      intro hm
      have hx := hm x (by simp)
      rw [List.map_cons, ih (fun u hu => hm u (by simp [hu]))]
      congr 1
      simp only [Function.comp, UInt8.toNat_ofNat']
      omega
  exact e l h
theorem zig_small (n : Nat) (h : n ≤ 20) : 0 ≤ zig (n : Int) ∧ zig (n : Int) ≤ 40 := by unfold zig; split <;> omega
theorem vd_small (n : Nat) (h : n ≤ 20) : vd (zig (n : Int)) = [zig (n : Int)] := by
  have hz := zig_small n h
  unfold vd
  rw [vdf]
  rw [if_pos (by omega)]
theorem rec_bts (r : ByteArray) (h : r.size ≤ 20) : bts (rec r) 0 = vd (zig (r.size : Int)) ++ bts r 0 := by
  unfold rec
  rw [bts_append, bts_nums6]
  rw [vd_small _ h]
  intro x hx
  have := zig_small _ h
  simp at hx
  omega
theorem rec_size (r : ByteArray) (h : r.size ≤ 20) : (rec r).size = 1 + r.size := by
  have h1 := bts_len (rec r) 0
  rw [rec_bts r h, vd_small _ h] at h1
  have h2 := bts_len r 0
  simp at h1
  omega
theorem app_size (s r : ByteArray) (h : r.size ≤ 20) : (s ++ rec r).size = s.size + (1 + r.size) := by rw [ByteArray.size_append, rec_size r h]
/-- The record that stands behind a text. -/
theorem app_rc (s r : ByteArray) (h : r.size ≤ 20) : rc (s ++ rec r) s.size = some (s.size + 1, r.size) := by
  have hz := zig_small _ h
  have e1 : bts (s ++ rec r) s.size = vd (zig (r.size : Int)) ++ bts r 0 := by
    rw [bts_at, bts_append, rec_bts r h]
    have hl : (bts s 0).length = s.size := by rw [bts_len]; omega
    rw [← hl, List.drop_left]
  have e2 : gv (bts (s ++ rec r) s.size) = some (vd (zig (r.size : Int))) := by rw [e1, gv_vd _ _ hz.1 (by omega)]
  have e3 : zag (val (vd (zig (r.size : Int)))) = (r.size : Int) := by rw [val_vd _ hz.1 (by omega), zag_zig]
  have e4 : (vd (zig (r.size : Int))).length = 1 := by rw [vd_small _ h]; rfl
  have e5 := app_size s r h
  unfold rc
  rw [e2]
  simp only [e3, e4]
  rw [if_pos ⟨by omega, by omega, by omega⟩]
  simp
theorem app_cnt (s r : ByteArray) (hw : wh s = s.size) (h : r.size ≤ 20) : cnt (s ++ rec r) = cnt s + 1 ∧ (∀ j, j ≤ cnt s → pl (s ++ rec r) 0 j = pl s 0 j) ∧ wh (s ++ rec r) = (s ++ rec r).size := by
  have hz := app_size s r h
  have hp : pl s 0 (cnt s) = s.size := hw
  have E := pl_ext (t := s ++ rec r) (cnt s) (Nat.le_refl _) (by omega) (by
    rw [bts_append, hp]
    have hl : (bts s 0).length = s.size := by rw [bts_len]; omega
    rw [← hl, List.take_left, List.take_length])
  have hr := app_rc s r h
  have e1 : pl (s ++ rec r) 0 (cnt s) = s.size := ((E _ (Nat.le_refl _)).1).trans hp
  have e2 : pl (s ++ rec r) 0 (cnt s + 1) = (s ++ rec r).size := by
    show nx (s ++ rec r) (pl (s ++ rec r) 0 (cnt s)) = _
    rw [e1, nx_some hr]
    omega
  have e3 : cnt (s ++ rec r) = cnt s + 1 := by
    refine cnt_unique _ _ (fun j hj => ?_) (by rw [e2]; exact rc_end (Nat.le_refl _))
    by_cases e : j = cnt s
    · subst e
      rw [e1, hr]
      intro hh; cases hh
    · rw [(E j (by omega)).2 (by omega)]
      exact cnt_yes s j (by omega)
  exact ⟨e3, fun j hj => (E j hj).1, by unfold wh; rw [e3, e2]⟩
theorem rec_alone (r : ByteArray) (h : r.size ≤ 20) : cnt (rec r) = 1 ∧ wh (rec r) = (rec r).size := by
  have hc : cnt ByteArray.empty = 0 := cnt_unique _ 0 (fun j hj => absurd hj (Nat.not_lt_zero _)) (rc_end (Nat.le_refl _))
  have hw : wh ByteArray.empty = ByteArray.empty.size := by unfold wh; rw [hc]; rfl
  have e : ByteArray.empty ++ rec r = rec r := by
    apply ByteArray.ext
    simp
  have := app_cnt ByteArray.empty r hw h
  rw [e, hc] at this
  exact ⟨this.1, this.2.2⟩
end Go.Proofs.YtbcljhafdpnjbabDoor.L6

namespace Go.Proofs.YtbcljhafdpnjbabDoor.L6
open Go.RowKit L1
set_option linter.unusedVariables false

open Classical in
theorem tear_few {L L' : List Pc} {B b B' left : Int} {ok : Bool} (h : TearIs L B b L' B' left ok) : L'.length ≤ 20 ∧ ∀ i, i < L'.length → (gc L' i).x.length ≤ 60 := by
  by_cases ht : TearOk L B b
  · obtain ⟨_, h1, _, _⟩ := h.yes ht
    obtain ⟨q, t, hq, _, g1, _, _⟩ := torn_all ht
    rw [← hq] at h1
    rw [h1]
    exact ⟨g1.many, g1.small rfl⟩
  · obtain ⟨_, h1, _, _⟩ := h.no ht
    rw [h1]
    exact ⟨Nat.zero_le _, fun i hi => absurd hi (Nat.not_lt_zero _)⟩
theorem own_capT {w : World} {base n cap : Nat} {a : Option Addr} {ys : List Value} (h : w.ownsRow base 9 1 (.slice a n cap) n ys) : n ≤ cap ∧ (a = none → cap = 0) := by
  rcases h.2 with ⟨hv, h0⟩ | ⟨g, cp, cu, hv, hbg, hg, hle, _⟩
  · simp at hv
    obtain ⟨rfl, h2⟩ := hv
    omega
  · cases hv
    exact ⟨hle, fun e => by cases e⟩
/-- What AllOf hands back, as the laws take it. -/
theorem allOf_form {w : World} {l : List ByteArray} {n : Nat} (hn : l.length = n) : ∀ e w', RetT w (some l) e w' → ∃ a c, e = .returned (.tuple #[.slice a n c, .bool true]) ∧ SlT w' a l ∧ n ≤ c ∧ (a = none → c = 0) ∧ Below w.heap.size w w' := by
  rintro e w' ⟨v, rfl, ho, hb⟩
  simp only [Option.getD_some] at ho
  rw [hn] at ho
  obtain ⟨a, c, rfl, hs, _⟩ := own_formT ho
  obtain ⟨h1, h2⟩ := own_capT ho
  exact ⟨a, c, rfl, hs, h1, h2, hb⟩
theorem slT_take {w : World} {a : Option Addr} {xs ys : List ByteArray} {k : Nat} (h : SlT w a xs) (e : xs.take k = ys) : SlT w a ys := fun i hi => by
  have hi' : i < xs.length ∧ i < k := by rw [← e] at hi; simp at hi; omega
  obtain ⟨b, off, ha, hc⟩ := h i hi'.1
  refine ⟨b, off, ha, ?_⟩
  rw [hc, ← e]
  simp [List.getD, hi'.2]
theorem elem_strT : Tryd.prog.elem 32 = 9 := by kernel_rfl
theorem run_size_strT (w : World) : (sizeOf (Tryd.prog.elem 32)).run Tryd.prog w = .ok 1 w := by
  rw [elem_strT]
  simp [sizeOf, go_sem]
  rfl
/-- A list's first texts, as a slice. -/
theorem slice_toT (a : Option Addr) (n cap p : Nat) (hp : p ≤ n) (hc : n ≤ cap) (h0 : a = none → cap = 0) :
    ∃ c', ∀ w, (Instr.slice 32 (.slice a n cap) none (some (.int .i64 (p : Int))) none).run Tryd.prog w = .ok (.slice a p c') w := by
  refine ⟨cap, fun w => ?_⟩
  rw [run_slice_h w 32 a n cap (by rw [elem_strT]; exact Tryd.underlying32) .i64 (p : Int) (by omega) (by omega), run_size_strT]
  cases a with
  | none => have := h0 rfl; subst this; simp [sliced]
  | some x => obtain ⟨b, off, sp⟩ := x; simp [sliced, Addr.add]; try (split <;> simp_all)
theorem cnt_none : cnt ByteArray.empty = 0 := cnt_unique _ 0 (fun j hj => absurd hj (Nat.not_lt_zero _)) (rc_end (Nat.le_refl _))
theorem good_new : GoodG [eC] 0 := by
  have hc := cnt_none
  have hw : wh ByteArray.empty = 0 := by unfold wh; rw [hc]; rfl
  have hx : ix ByteArray.empty = [] := by unfold ix; rw [hc]; rfl
  have e : gc [eC] 0 = eC := rfl
  refine ⟨by simp, by simp, by rw [e]; exact Int.le_refl _, by rw [e]; show (0 : Int) ≤ 100000; omega, fun i hi => ?_, by rw [e]; exact Int.le_refl _, by rw [e]; show (0 : Int) ≤ 0 + _; omega, ?_⟩
  · obtain rfl : i = 0 := by simp at hi; omega
    refine ⟨⟨by show (0 : Nat) ≤ 60; omega, ?_, ?_⟩, rfl, fun h => by simp at h⟩
    · rw [e]; exact hw
    · rw [e]; exact hx.symm
  · show atg [eC] 0 + (cnt (gc [eC] 0).s : Int) - (gc [eC] 0).f ≤ 60
    rw [e]
    show (0 : Int) + (cnt ByteArray.empty : Int) - 0 ≤ 60
    rw [hc]
    omega
theorem tx_new : TxC [eC] := fun j hj => by
  obtain rfl : j = 0 := by simp at hj; omega
  exact ⟨by show (0 : Nat) ≤ _; omega, by show (0 : Nat) ≤ _; omega⟩
theorem x_new : ∀ i, i < 1 → (gc [eC] i).x.length ≤ 1048576 := fun i hi => by
  obtain rfl : i = 0 := by omega
  show (0 : Nat) ≤ _
  omega
end Go.Proofs.YtbcljhafdpnjbabDoor.L6
