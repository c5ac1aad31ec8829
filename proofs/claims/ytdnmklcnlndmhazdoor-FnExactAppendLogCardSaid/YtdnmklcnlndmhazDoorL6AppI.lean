/-
  Contract: impl.AppendLog, where it answers none, and where the last piece has room.
-/
import Derived.Test.YtdnmklcnlndmhazDoorL6Copy
import Derived.Test.YtdnmklcnlndmhazDoorL6AppLog
import Derived.Test.YtdnmklcnlndmhazDoorL6GoodLog
import Derived.Test.YtdnmklcnlndmhazDoorL6Whole
import Derived.Test.YtdnmklcnlndmhazDoorL1PutVarint
import Derived.Deep.RegionWith
import Derived.Deep.RegionHeld3
import Derived.Deep.DeepCutAuto
namespace Go.Proofs.YtdnmklcnlndmhazDoor.L6
open Go.RowKit L1
set_option linter.unusedVariables false

theorem blk_second (w : World) (x y : Obj) : ((w.alloc x).alloc y).heap[w.heap.size + 1]? = some y := by
  have := blk_new (w.alloc x) y
  rw [World.size_alloc] at this
  exact this
theorem blk_first (w : World) (x y : Obj) : ((w.alloc x).alloc y).heap[w.heap.size]? = some x :=
  (((Below.refl (w.alloc x).heap.size _).alloc (Nat.le_refl _) _).block w.heap.size (by simp)).trans (blk_new _ _)
theorem own_nilA (w : World) (base : Nat) : OwC w base (.slice none 0 0) 0 [] := ⟨rfl, World.ownsRow_nil _ _ _ _, fun i hi => absurd hi (Nat.not_lt_zero _), fun i j _ hj => absurd hj (Nat.not_lt_zero _)⟩
theorem retL_none {w w' : World} (hb : Below w.heap.size w w') : RetL w [] 0 false (.returned (.tuple #[.agg #[.slice none 0 0, .int .i64 0], .bool false])) w' := ⟨_, _, rfl, [], rfl, own_nilA _ _, hb⟩

open Classical in
set_option maxRecDepth 100000 in
set_option maxHeartbeats 4000000 in
theorem implAppend_no (a : Option Addr) (L : List Pc) (n cap : Nat) (B : Int) (r : ByteArray) (w : World) (hn : L.length = n) (hm : n ≤ 9223372036854775807) (hs : SlC w a L) (hst : TxC L) (ht : Tab w) (hno : ¬ AppPre L B r) :
    Calls Tryd.prog 14 #[.agg #[.slice a n cap, .int .i64 B], .string r] w (RetL w [] 0 false) := by
  obtain ⟨bk, hbk⟩ : ∃ bk : Bool, bk = true ↔ GoodG L B := ⟨decide (GoodG L B), by simp⟩
  have C1 := hide (fun wx (hb : Below w.heap.size w wx) => goodLog_any a L n cap B wx hn hm (hs.below hb) hst (ht.below hb) bk hbk)
  cases bk with
  | false =>
    clear hs hn hst hbk ht hno
    go_enter Tryd.func14, Tryd.ntmps14
    go_wp2_with fail
    refine (C1.out _ (((Below.refl _ _).alloc (Nat.le_refl _) _).alloc (by simp) _)).mono ?_
    rintro e w1 ⟨rfl, hb1⟩
    obtain ⟨z0, z1, z2, z3⟩ := blkp ((hb1.block (w.heap.size + 1) (by simp)).trans (blk_second w _ _))
    have B1 := hide ((((Below.refl w.heap.size w).alloc (Nat.le_refl _) (.cells #[.slice a n cap, .int .i64 B] 29 (0, 0))).alloc (by simp) (.cells #[.slice none 0 0, .int .i64 0] 29 (0, 0))).trans (hb1.mono (by simp; omega)))
    clear hb1
    go_wp2
    refine bodyPost_ret (v := .tuple #[.agg #[.slice none 0 0, .int .i64 0], .bool false]) (by simp [results, Tryd.f14, go_sem, z0, z1]) rfl (retL_none ((B1.out.setCell (p := ⟨_, _, none⟩) (Nat.le_succ _) _).setCell (p := ⟨_, _, none⟩) (Nat.le_succ _) _))
  | true =>
    have hg := hbk.1 rfl
    have hla := hg.logAt hn hs ht
    have C2 := hide (fun wx (hb : Below w.heap.size w wx) => recordsIn_any a L n cap B wx (hla.below hb))
    by_cases hr : (20 : Int) < (r.size : Int)
    · clear hs hn hst hbk ht hno hg hla C2
      go_enter Tryd.func14, Tryd.ntmps14
      go_wp2_with fail
      refine (C1.out _ (((Below.refl _ _).alloc (Nat.le_refl _) _).alloc (by simp) _)).mono ?_
      rintro e w1 ⟨rfl, hb1⟩
      obtain ⟨z0, z1, z2, z3⟩ := blkp ((hb1.block (w.heap.size + 1) (by simp)).trans (blk_second w _ _))
      have B1 := hide ((((Below.refl w.heap.size w).alloc (Nat.le_refl _) (.cells #[.slice a n cap, .int .i64 B] 29 (0, 0))).alloc (by simp) (.cells #[.slice none 0 0, .int .i64 0] 29 (0, 0))).trans (hb1.mono (by simp; omega)))
      clear hb1
      go_wp2
      refine bodyPost_ret (v := .tuple #[.agg #[.slice none 0 0, .int .i64 0], .bool false]) (by simp [results, Tryd.f14, go_sem, z0, z1]) rfl (retL_none ((B1.out.setCell (p := ⟨_, _, none⟩) (Nat.le_succ _) _).setCell (p := ⟨_, _, none⟩) (Nat.le_succ _) _))
    · have h60 : lastEnd L n - (gc L 0).f = 60 := Classical.byContradiction fun h => hno ⟨hg, by omega, by rw [hn]; exact h⟩
      rw [h60] at C2
      clear hs hn hst hbk ht hno hg hla h60
      go_enter Tryd.func14, Tryd.ntmps14
      go_wp2_with fail
      refine (C1.out _ (((Below.refl _ _).alloc (Nat.le_refl _) _).alloc (by simp) _)).mono ?_
      rintro e w1 ⟨rfl, hb1⟩
      have G1 : Hid (w1.heap[w.heap.size + 1]? = some (.cells #[.slice none 0 0, .int .i64 0] 29 (0, 0))) := (hb1.block (w.heap.size + 1) (by simp)).trans (blk_second w _ _)
      obtain ⟨k0, k1, _, _⟩ := blkp ((hb1.block w.heap.size (by simp only [World.size_alloc]; omega)).trans (blk_first w _ _))
      have B1 := hide ((((Below.refl w.heap.size w).alloc (Nat.le_refl _) (.cells #[.slice a n cap, .int .i64 B] 29 (0, 0))).alloc (by simp) (.cells #[.slice none 0 0, .int .i64 0] 29 (0, 0))).trans (hb1.mono (by simp; omega)))
      clear hb1
      go_wp2_with fail
      refine (C2.out _ B1.out).mono ?_
      rintro e w2 ⟨rfl, hb2⟩
      obtain ⟨z0, z1, z2, z3⟩ := blkp ((hb2.block (w.heap.size + 1) (Array.getElem?_eq_some_iff.1 G1.out).1).trans G1.out)
      have B2 := hide (B1.out.trans (hb2.mono B1.out.size))
      clear hb2
      go_wp2
      refine bodyPost_ret (v := .tuple #[.agg #[.slice none 0 0, .int .i64 0], .bool false]) (by simp [results, Tryd.f14, go_sem, z0, z1]) rfl (retL_none ((B2.out.setCell (p := ⟨_, _, none⟩) (Nat.le_succ _) _).setCell (p := ⟨_, _, none⟩) (Nat.le_succ _) _))
end Go.Proofs.YtdnmklcnlndmhazDoor.L6
