/-
  Contract of the laws' own helper toLog: it copies a log into new memory.
-/
import Derived.Test.YtdnmklcnlndmhazDoorL6To
import Derived.Test.YtdnmklcnlndmhazDoorL6Eq
namespace Go.Proofs.YtdnmklcnlndmhazDoor.L6
open Go.RowKit L1
set_option linter.unusedVariables false

set_option maxRecDepth 100000 in
set_option maxHeartbeats 1000000 in
theorem toLog_any (a : Option Addr) (L : List Pc) (n cap : Nat) (B : Int) (w : World) (hn : L.length = n) (hs : SlC w a L) (hn2 : n ≤ 1048576) (hsz : ∀ i, i < n → (gc L i).x.length ≤ 1048576) :
    Calls Tryd.prog 10 #[.agg #[.slice a n cap, .int .i64 B]] w fun e w' => ∃ g, e = .returned (.agg #[.slice (some ⟨g, 0, none⟩) n n, .int .i64 B]) ∧ (∃ M, pcs M = L ∧ OwC w' w.heap.size (.slice (some ⟨g, 0, none⟩) n n) n M) ∧ Below w.heap.size w w' := by
  have C := hide (fun w hs => toPieceS_any a L n cap w hn hs hn2 hsz)
  have HS := hide hs
  clear hs hn hsz
  go_enter Tryd.func10, Tryd.ntmps10
  go_wp2_with fail
  refine (C.out _ (HS.out.below ((((Below.refl _ _).alloc (Nat.le_refl _) _).alloc (by simp) _).alloc (by simp; omega) _))).mono ?_
  rintro e w1 ⟨rfl, ⟨M, hM, ho⟩, hb⟩
  obtain ⟨b3, b2, b1, bz⟩ := blk_three w (.cells #[.slice a n cap, .int .i64 B] 24 (0, 0)) (.cells #[.slice none 0 0, .int .i64 0] 29 (0, 0)) (.cells #[.slice none 0 0, .int .i64 0] 29 (0, 0))
  have G3 := (hb.block (w.heap.size + 2) (by simp)).trans b3
  have G2 := (hb.block (w.heap.size + 1) (by simp)).trans b2
  have G1 := (hb.block w.heap.size (by simp; omega)).trans b1
  obtain ⟨c0, c1, c3, c4⟩ := blkp G3
  obtain ⟨d0, d1, d3, d4⟩ := blkp G2
  obtain ⟨f0, f1, _, _⟩ := blkp G1
  have ho' : OwC w1 (w.heap.size + 3) (.slice (some ⟨w.heap.size + 1 + 1 + 1, 0, none⟩) n n) n M := by
    simp only [World.size_alloc] at ho
    exact ho.base (by omega)
  have H1 := hide ho'
  have HM := hide hM
  have BB0 := hide (hb.mono (show w.heap.size ≤ _ by simp; omega))
  have BB := hide ((((Below.refl w.heap.size w).alloc (Nat.le_refl _) (.cells #[.slice a n cap, .int .i64 B] 24 (0, 0))).alloc (by simp) (.cells #[.slice none 0 0, .int .i64 0] 29 (0, 0))).alloc (by simp; omega) (.cells #[.slice none 0 0, .int .i64 0] 29 (0, 0)))
  clear ho hb G3 G2 G1 b1 b2 b3 bz ho' hM
  go_wp2
  refine bodyPost_ret (v := .agg #[.slice (some ⟨w.heap.size + 1 + 1 + 1, 0, none⟩) n n, .int .i64 B]) (by simp [results, Tryd.f10, go_sem, d0, d1]) rfl ⟨_, rfl, ⟨M, HM.out, ?_⟩, ?_⟩
  · have z1 : w.heap.size + 1 + 1 < w.heap.size + 3 := by omega
    have z2 : w.heap.size + 1 < w.heap.size + 3 := by omega
    exact OwC.base (b1 := w.heap.size + 3) ((((H1.out.setC ⟨_, _, none⟩ _ z1).setC ⟨_, _, none⟩ _ z1).setC ⟨_, _, none⟩ _ z2).setC ⟨_, _, none⟩ _ z2) (by omega)
  · exact ((((BB.out.trans BB0.out).setCell (p := ⟨_, _, none⟩) (by show w.heap.size ≤ w.heap.size + 1 + 1; omega) _).setCell (p := ⟨_, _, none⟩) (by show w.heap.size ≤ w.heap.size + 1 + 1; omega) _).setCell (p := ⟨_, _, none⟩) (by show w.heap.size ≤ w.heap.size + 1; omega) _).setCell (p := ⟨_, _, none⟩) (by show w.heap.size ≤ w.heap.size + 1; omega) _

end Go.Proofs.YtdnmklcnlndmhazDoor.L6
