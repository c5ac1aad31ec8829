/-
  Contracts: impl.RecoverPiece, spec.RecoverPiece.
-/
import Derived.Test.YtkjogjjfpjkeobaDoorL6Whole
import Derived.Test.YtkjogjjfpjkeobaDoorL6SPiece
namespace Go.Proofs.YtkjogjjfpjkeobaDoor.L6
open Go.RowKit L1
set_option linter.unusedVariables false

/-- A piece that a call hands back, its Index in new memory, and two more. -/
def RetP (w : World) (p : Pc) (left : Int) (ok : Bool) (e : Ending) (w' : World) : Prop :=
  ∃ a q, e = .returned (.tuple #[.agg #[.int .i64 p.f, .string p.s, .slice a p.x.length q], .int .i64 left, .bool ok]) ∧ w'.ownsRow w.heap.size 3 1 (.slice a p.x.length q) p.x.length (p.x.map (Value.int .i64)) ∧ Below w.heap.size w w'
/-- What RecoverPiece answers. -/
structure RecIs (f : Int) (s : ByteArray) (p : Pc) (left : Int) (ok : Bool) : Prop where
  yes : 0 ≤ f ∧ f ≤ 1000 ∧ s.size ≤ 60 → ok = true ∧ p = ⟨f, s.extract 0 (wh s), ix s⟩ ∧ left = (s.size : Int) - (wh s : Int)
  no : ¬ (0 ≤ f ∧ f ≤ 1000 ∧ s.size ≤ 60) → ok = false ∧ p = eC ∧ left = 0
theorem rec_is (f : Int) (s : ByteArray) : ∃ p left ok, RecIs f s p left ok ∧ p.x.length ≤ 60 := by
  by_cases h : 0 ≤ f ∧ f ≤ 1000 ∧ s.size ≤ 60
  · refine ⟨_, _, true, ⟨fun _ => ⟨rfl, rfl, rfl⟩, fun h2 => absurd h h2⟩, ?_⟩
    show (ix s).length ≤ 60
    unfold ix
    rw [ixk_len]
    have := cnt_le s
    omega
  · exact ⟨_, _, false, ⟨fun h2 => absurd h2 h, fun _ => ⟨rfl, rfl, rfl⟩⟩, Nat.zero_le _⟩

set_option maxRecDepth 100000 in
set_option maxHeartbeats 1000000 in
theorem implRecover_any (f : Int) (s : ByteArray) (w : World) (hs : s.size ≤ 1048576) (ht : Tab w) (p : Pc) (left : Int) (ok : Bool) (hr : RecIs f s p left ok) :
    Calls Tryd.prog 17 #[.int .i64 f, .string s] w (RetP w p left ok) := by
  by_cases h : 0 ≤ f ∧ f ≤ 1000 ∧ s.size ≤ 60
  · obtain ⟨rfl, rfl, rfl⟩ := hr.yes h
    have C := hide (fun wx (hb : Below w.heap.size w wx) => (wholePiece_any f s wx hs (ht.below hb)).mono (R' := fun e w2 => ∃ a2 q2, e = .returned (.agg #[.int .i64 f, .string (s.extract 0 (wh s)), .slice a2 (ix s).length q2]) ∧ w2.ownsRow wx.heap.size 3 1 (.slice a2 (ix s).length q2) (ix s).length ((ix s).map (Value.int .i64)) ∧ Below wx.heap.size wx w2) (by
      rintro e w2 ⟨v2, rfl, ho2, hb2⟩
      obtain ⟨a2, q2, rfl, _, _⟩ := own_form ho2
      exact ⟨a2, q2, rfl, ho2, hb2⟩))
    have hw := wh_le s
    unfold RetP
    simp only
    have hys : (s.extract 0 (wh s)).size = wh s := by simp; omega
    obtain ⟨l, hl⟩ : ∃ l, l = ix s := ⟨_, rfl⟩
    rw [← hl] at C ⊢
    obtain ⟨N, hN⟩ : ∃ N, N = l.length := ⟨_, rfl⟩
    rw [← hN] at C ⊢
    obtain ⟨y, hy⟩ : ∃ y, y = s.extract 0 (wh s) := ⟨_, rfl⟩
    rw [← hy] at C hys ⊢
    obtain ⟨k, hk⟩ : ∃ k, k = wh s := ⟨_, rfl⟩
    rw [← hk] at hys hw ⊢
    have h1 : ¬ f < 0 := by omega
    have h2 : ¬ (1000 : Int) < f := by omega
    have h3 : ¬ (60 : Int) < (s.size : Int) := by omega
    have hwr : IntKind.i64.wrap ((s.size : Int) - (k : Int)) = (s.size : Int) - (k : Int) := wrap6 (by omega) (by omega)
    clear hr ht h hl hN hy hk
    go_enter Tryd.func17, Tryd.ntmps17
    go_wp2_with fail
    refine (C.out _ ((Below.refl _ _).alloc (Nat.le_refl _) _)).mono ?_
    rintro e w1 ⟨a2, q2, rfl, ho, hb⟩
    obtain ⟨c0, c1, c2, c3, c4, c5⟩ := blk3 ((hb.block w.heap.size (by simp)).trans (blk_new w (.cells #[.int .i64 0, .string ByteArray.empty, .slice none 0 0] 37 (0, 0))))
    have hlt : w.heap.size < w1.heap.size := by have := hb.size; simp at this; omega
    have B1 := hide (((Below.refl w.heap.size w).alloc (Nat.le_refl _) (.cells #[.int .i64 0, .string ByteArray.empty, .slice none 0 0] 37 (0, 0))).trans (hb.mono (by simp)))
    have ho' : w1.ownsRow (w.heap.size + 1) 3 1 (.slice a2 N q2) N (l.map (Value.int .i64)) := by
      simp only [World.size_alloc] at ho
      exact ho
    have O := hide ho'
    obtain ⟨W, hW⟩ : ∃ W, W = w1.alloc (.cells #[.int .i64 f, .string y, .slice a2 N q2] 37 (0, 0)) := ⟨_, rfl⟩
    have OW : Hid (W.ownsRow (w.heap.size + 1) 3 1 (.slice a2 N q2) N (l.map (Value.int .i64))) := by show W.ownsRow _ _ _ _ _ _; rw [hW]; exact own_belowC O.out ((Below.refl _ _).alloc (Nat.le_refl _) _)
    have BW : Hid (Below w.heap.size w W) := by show Below _ _ _; rw [hW]; exact B1.out.alloc B1.out.size _
    obtain ⟨d0, d1, d2, _, _, _⟩ := blk3 (show W.heap[w1.heap.size]? = some (.cells #[.int .i64 f, .string y, .slice a2 N q2] 37 (0, 0)) by rw [hW]; exact blk_new _ _)
    have hbW : Below w1.heap.size w1 W := by rw [hW]; exact (Below.refl _ _).alloc (Nat.le_refl _) _
    obtain ⟨g0, g1, g2, g3, g4, g5⟩ := blk3 ((hbW.block w.heap.size hlt).trans ((hb.block w.heap.size (by simp)).trans (blk_new w (.cells #[.int .i64 0, .string ByteArray.empty, .slice none 0 0] 37 (0, 0)))))
    have hne : ¬ w1.heap.size = w.heap.size := by omega
    clear ho hb ho' hbW O c0 c1 c2 c3 c4 c5 B1
    go_wp2
    rw [← hW]
    clear hW
    go_region
    go_wp2
    refine bodyPost_ret (v := .tuple #[.agg #[.int .i64 f, .string y, .slice a2 N q2], .int .i64 ((s.size : Int) - (k : Int)), .bool true]) (by simp [results, Tryd.f17, go_sem, g0, g1, g2]) rfl ⟨_, _, rfl, ?_, ?_⟩
    · have z : w.heap.size < w.heap.size + 1 := by omega
      exact own_belowC (own_baseC (b1 := w.heap.size + 1) (own_setC (own_setC (own_setC OW.out ⟨_, _, none⟩ _ z) ⟨_, _, none⟩ _ z) ⟨_, _, none⟩ _ z) (by omega)) (Below.refl _ _).drew
    · exact (((BW.out.setCell (p := ⟨_, _, none⟩) (Nat.le_refl _) _).setCell (p := ⟨_, _, none⟩) (Nat.le_refl _) _).setCell (p := ⟨_, _, none⟩) (Nat.le_refl _) _).drew
  · obtain ⟨rfl, rfl, rfl⟩ := hr.no h
    unfold RetP eC
    simp only [List.length_nil, List.map_nil]
    clear hr ht
    by_cases h1 : f < 0
    · clear h
      go_enter Tryd.func17, Tryd.ntmps17
      go_wp2
      refine bodyPost_ret (v := .tuple #[.agg #[.int .i64 0, .string ByteArray.empty, .slice none 0 0], .int .i64 0, .bool false]) (by simp [results, Tryd.f17, go_sem]; rfl) rfl ⟨none, 0, rfl, World.ownsRow_nil _ _ _ _, (Below.refl _ _).alloc (Nat.le_refl _) _⟩
    · by_cases h2 : (1000 : Int) < f
      · clear h
        go_enter Tryd.func17, Tryd.ntmps17
        go_wp2
        refine bodyPost_ret (v := .tuple #[.agg #[.int .i64 0, .string ByteArray.empty, .slice none 0 0], .int .i64 0, .bool false]) (by simp [results, Tryd.f17, go_sem]; rfl) rfl ⟨none, 0, rfl, World.ownsRow_nil _ _ _ _, (Below.refl _ _).alloc (Nat.le_refl _) _⟩
      · have h3 : (60 : Int) < (s.size : Int) := by omega
        clear h
        go_enter Tryd.func17, Tryd.ntmps17
        go_wp2
        refine bodyPost_ret (v := .tuple #[.agg #[.int .i64 0, .string ByteArray.empty, .slice none 0 0], .int .i64 0, .bool false]) (by simp [results, Tryd.f17, go_sem]; rfl) rfl ⟨none, 0, rfl, World.ownsRow_nil _ _ _ _, (Below.refl _ _).alloc (Nat.le_refl _) _⟩

set_option maxRecDepth 100000 in
set_option maxHeartbeats 1000000 in
theorem specRecover_any (f : Int) (s : ByteArray) (w : World) (hs : s.size ≤ 1048576) (p : Pc) (left : Int) (ok : Bool) (hr : RecIs f s p left ok) :
    Calls Tryd.prog 16 #[.int .i64 f, .string s] w (RetP w p left ok) := by
  by_cases h : 0 ≤ f ∧ f ≤ 1000 ∧ s.size ≤ 60
  · obtain ⟨rfl, rfl, rfl⟩ := hr.yes h
    have hw := wh_le s
    have C1 := hide (fun w => l6Starts_any s w hs)
    have hcl := cnt_le s
    have hix := whole_ix s
    have CI := hide (fun w => l1In_any f 0 1000 w true (by simp; omega))
    have q := fun w => slice_to w s (wh s) hw
    have hys : (s.extract 0 (wh s)).size ≤ 1048576 := by simp; omega
    obtain ⟨m, hm⟩ : ∃ m, m = cnt s := ⟨_, rfl⟩
    rw [← hm] at C1
    unfold RetP
    simp only
    have C2 := hide (fun wx => (l6Piece_any f (s.extract 0 (wh s)) wx hys).mono (R' := fun e w2 => ∃ a2 q2, e = .returned (.agg #[.int .i64 f, .string (s.extract 0 (wh s)), .slice a2 (ix s).length q2]) ∧ w2.ownsRow wx.heap.size 3 1 (.slice a2 (ix s).length q2) (ix s).length ((ix s).map (Value.int .i64)) ∧ Below wx.heap.size wx w2) (by
      rintro e w2 ⟨v2, rfl, ho2, hb2⟩
      rw [hix] at ho2
      obtain ⟨a2, q2, rfl, _, _⟩ := own_form ho2
      exact ⟨a2, q2, rfl, ho2, hb2⟩))
    obtain ⟨l, hl⟩ : ∃ l, l = ix s := ⟨_, rfl⟩
    rw [← hl] at C2 ⊢
    obtain ⟨N, hN⟩ : ∃ N, N = l.length := ⟨_, rfl⟩
    rw [← hN] at C2 ⊢
    obtain ⟨y, hy⟩ : ∃ y, y = s.extract 0 (wh s) := ⟨_, rfl⟩
    rw [← hy] at C2 q ⊢
    obtain ⟨k, hk⟩ : ∃ k, k = wh s := ⟨_, rfl⟩
    rw [← hk] at hw C1 q ⊢
    have h3 : ¬ (60 : Int) < (s.size : Int) := by omega
    clear hr h hl hN hy hk hys hix hm hcl
    go_enter Tryd.func16, Tryd.ntmps16
    go_wp2_with fail
    refine (CI.out _).mono ?_
    rintro e w0 ⟨rfl, rfl⟩
    go_wp2_with fail
    refine (C1.out _).mono ?_
    rintro e w1 ⟨v1, rfl, ho1, hb1⟩
    obtain ⟨a1, q1, rfl, s1, _⟩ := own_form ho1
    have G1 := (hb1.block w.heap.size (by simp)).trans (blk_new w (.cells #[.int .i64 0, .string ByteArray.empty, .slice none 0 0] 37 (0, 0)))
    have hlt : w.heap.size < w1.heap.size := by have := hb1.size; simp at this; omega
    have B1 := hide (((Below.refl w.heap.size w).alloc (Nat.le_refl _) (.cells #[.int .i64 0, .string ByteArray.empty, .slice none 0 0] 37 (0, 0))).trans (hb1.mono (by simp)))
    have HG := hide G1
    clear ho1 hb1 s1 G1
    go_wp2_with fail
    refine (C2.out _).mono ?_
    rintro e w2 ⟨a2, q2, rfl, ho, hb⟩
    obtain ⟨g0, g1, g2, g3, g4, g5⟩ := blk3 ((hb.block w.heap.size hlt).trans HG.out)
    have B2 := hide (B1.out.trans (hb.mono B1.out.size))
    have O := hide ho
    clear ho hb
    go_wp2
    refine bodyPost_ret (v := .tuple #[.agg #[.int .i64 f, .string y, .slice a2 N q2], .int .i64 ((s.size : Int) - (k : Int)), .bool true]) (by simp [results, Tryd.f16, go_sem, g0, g1, g2]) rfl ⟨_, _, rfl, ?_, ?_⟩
    · exact own_baseC (b1 := w1.heap.size) (own_setC (own_setC (own_setC O.out ⟨_, _, none⟩ _ hlt) ⟨_, _, none⟩ _ hlt) ⟨_, _, none⟩ _ hlt) (by omega)
    · exact ((B2.out.setCell (p := ⟨_, _, none⟩) (Nat.le_refl _) _).setCell (p := ⟨_, _, none⟩) (Nat.le_refl _) _).setCell (p := ⟨_, _, none⟩) (Nat.le_refl _) _
  · obtain ⟨rfl, rfl, rfl⟩ := hr.no h
    unfold RetP eC
    simp only [List.length_nil, List.map_nil]
    clear hr
    by_cases h1 : 0 ≤ f ∧ f ≤ 1000
    · have CI := hide (fun w => l1In_any f 0 1000 w true (by simp; omega))
      have h3 : (60 : Int) < (s.size : Int) := by omega
      clear h h1
      go_enter Tryd.func16, Tryd.ntmps16
      go_wp2_with fail
      refine (CI.out _).mono ?_
      rintro e w0 ⟨rfl, rfl⟩
      go_wp2
      refine bodyPost_ret (v := .tuple #[.agg #[.int .i64 0, .string ByteArray.empty, .slice none 0 0], .int .i64 0, .bool false]) (by simp [results, Tryd.f16, go_sem]; rfl) rfl ⟨none, 0, rfl, World.ownsRow_nil _ _ _ _, (Below.refl _ _).alloc (Nat.le_refl _) _⟩
    · have CI := hide (fun w => l1In_any f 0 1000 w false (by simp; omega))
      clear h h1
      go_enter Tryd.func16, Tryd.ntmps16
      go_wp2_with fail
      refine (CI.out _).mono ?_
      rintro e w0 ⟨rfl, rfl⟩
      go_wp2
      refine bodyPost_ret (v := .tuple #[.agg #[.int .i64 0, .string ByteArray.empty, .slice none 0 0], .int .i64 0, .bool false]) (by simp [results, Tryd.f16, go_sem]; rfl) rfl ⟨none, 0, rfl, World.ownsRow_nil _ _ _ _, (Below.refl _ _).alloc (Nat.le_refl _) _⟩
end Go.Proofs.YtkjogjjfpjkeobaDoor.L6
