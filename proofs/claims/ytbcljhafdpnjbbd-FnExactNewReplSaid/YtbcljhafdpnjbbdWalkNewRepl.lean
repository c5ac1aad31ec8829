/-
  The walk of the law FnExactNewRepl: it returns true at every number; memory that was there stays as it was.
-/
import Derived.Test.YtbcljhafdpnjbbdL9Mark
namespace Go.Proofs.Ytbcljhafdpnjbbd.fnExactNewRepl
open Go.RowKit L1 L7 L9
set_option linter.unusedVariables false

set_option maxRecDepth 100000 in
set_option maxHeartbeats 4000000 in
theorem walk (k : Int) (w : World) (wf : (Lit.int .i64 k).wf = true) :
    Calls Try.prog 4 #[.int .i64 k] w fun e w' => e = .returned (.bool true) ∧ Below w.heap.size w w' := by
  obtain ⟨m, ep, ok, hy, hn, hm⟩ : ∃ (m : Nat) (ep : Int) (ok : Bool), (1 ≤ k ∧ k ≤ 5 → (m : Int) = k ∧ ep = 1 ∧ ok = true) ∧ (¬ (1 ≤ k ∧ k ≤ 5) → m = 0 ∧ ep = 0 ∧ ok = false) ∧ m ≤ 5 := by
    by_cases h : 1 ≤ k ∧ k ≤ 5
    · exact ⟨k.toNat, 1, true, fun _ => ⟨by omega, rfl, rfl⟩, fun h2 => absurd h h2, by omega⟩
    · exact ⟨0, 0, false, fun h2 => absurd h2 h, fun _ => ⟨rfl, rfl, rfl⟩, by omega⟩
  have CS := hide (fun wx => specNew_any k wx m ep ok hy hn)
  have CI := hide (fun wx => implNew_any k wx m ep ok hy hn)
  have hz := rpz_new hm (upI_len m)
  have CE := hide (fun p0 c0 p1 c1 p2 c2 q0 d0 q1 d1 q2 d2 wx h1 h2 => eqRepl_same p0 c0 p1 c1 p2 c2 none 0 q0 d0 q1 d1 q2 d2 none 0 m m m 0 0 ep (List.replicate m []) (List.replicate m false) (upI m) [] wx hz (by simp) h1 h2)
  clear hy hn hz wf
  unfold RetN at CS CI
  go_enter Try.func4, Try.ntmps4
  go_wp2_with fail
  refine (CS.out _).mono ?_
  rintro e w1 ⟨sg, ug, sd, ud, sy, uy, rfl, ho, hb⟩
  have B1 := hide hb
  have F1 := hide ho.rpf
  have ha1 := hide ((Below.refl w1.heap.size w1).alloc (Nat.le_refl _) (rpO sg m ug sd m ud 0 ep sy m uy none 0 0))
  clear ho hb CS
  go_wp2_with fail
  refine (CI.out _).mono ?_
  rintro e w2 ⟨gg_, cg, gd, cd, gy, cy, rfl, ho, hb⟩
  have hs2 : w1.heap.size + 1 ≤ w2.heap.size := by have := hb.size; simpa using this
  have D2 := hide (ha1.out.trans (hb.mono ha1.out.size))
  have P2 := hide ((hb.block w1.heap.size (by simp)).trans (blk_new9 _ _))
  have O2 : Hid (OwR w2 (w1.heap.size + 1) (.slice gg_ m cg) (.slice gd m cd) (.slice gy m cy) m (List.replicate m false) (upI m)) := by
    rw [World.size_alloc] at ho
    exact hide ho
  have ha2 := hide ((Below.refl w2.heap.size w2).alloc (Nat.le_refl _) (rpO gg_ m cg gd m cd 0 ep gy m cy none 0 0))
  obtain ⟨k0, k1, k2, k3, k4, k5⟩ := blk6 P2.out
  have a0 := Go.Lib.cell?_alloc_some (rpO gg_ m cg gd m cd 0 ep gy m cy none 0 0) k0
  have a1 := Go.Lib.cell?_alloc_some (rpO gg_ m cg gd m cd 0 ep gy m cy none 0 0) k1
  have a2 := Go.Lib.cell?_alloc_some (rpO gg_ m cg gd m cd 0 ep gy m cy none 0 0) k2
  have a3 := Go.Lib.cell?_alloc_some (rpO gg_ m cg gd m cd 0 ep gy m cy none 0 0) k3
  have a4 := Go.Lib.cell?_alloc_some (rpO gg_ m cg gd m cd 0 ep gy m cy none 0 0) k4
  have a5 := Go.Lib.cell?_alloc_some (rpO gg_ m cg gd m cd 0 ep gy m cy none 0 0) k5
  clear ho hb ha1 k0 k1 k2 k3 k4 k5
  go_wp2_with fail
  refine (CE.out _ _ _ _ _ _ _ _ _ _ _ _ _ (O2.out.below ha2.out).rpf ((F1.out.below D2.out).below ha2.out)).mono ?_
  rintro e w3 ⟨rfl, hb⟩
  have hb3 := ha2.out.trans (hb.mono ha2.out.size)
  have hs3 : w2.heap.size + 1 ≤ w3.heap.size := by have := hb.size; simpa using this
  have G3 := hide ((hb.block w2.heap.size (by simp)).trans (blk_new9 _ _))
  have P3 := hide ((hb3.block w1.heap.size (by omega)).trans P2.out)
  have O3 := hide (O2.out.below hb3)
  have D3 := hide (D2.out.trans (hb3.mono D2.out.size))
  have LD : Hid (∀ g, (Value.slice gd m cd).ownBlock = some g → g < w2.heap.size) := hide (fun g hg => (L8.own_lt O2.out.d g hg).2)
  have LY : Hid (∀ g, (Value.slice gy m cy).ownBlock = some g → g < w2.heap.size) := hide (fun g hg => (L8.own_lt O2.out.y g hg).2)
  clear hb hb3 ha2 a0 a1 a2 a3 a4 a5 P2 O2 D2
  obtain ⟨j0, j1, j2, j3, j4, j5⟩ := blk6 G3.out
  go_wp2_with fail
  refine (markRepl_new (w1.heap.size + 1) w2.heap.size gg_ cg gd cd gy cy m ep _ _ _ hm O3.out LD.out LY.out (by omega)).mono ?_
  rintro e w4 ⟨rfl, ho, hon⟩
  have hs4 := hon.size
  have G4 := hide ((hon.block w2.heap.size (by omega) (.inr (Nat.le_refl _))).trans G3.out)
  have P4 := hide ((hon.block w1.heap.size (by omega) (.inl (Nat.lt_succ_self _))).trans P3.out)
  have D4 := hide (D3.out.trans ((hon.below (by omega)).mono (Nat.le_succ _)))
  have O4 := hide ho
  clear ho hon j0 j1 j2 j3 j4 j5 G3 P3 O3 D3 LD LY
  obtain ⟨j0, j1, j2, j3, j4, j5⟩ := blk6 G4.out
  have hnn : ¬ 1 + (m : Int) + (m : Int) < 0 := by omega
  go_wp2_with fail
  refine (heldRepl_new gg_ cg gd cd gy cy m _ ep _ hm O4.out).mono ?_
  rintro e w5 ⟨rfl, hb⟩
  have hs5 := hb.size
  have G5 := hide ((hb.block w2.heap.size (by omega)).trans G4.out)
  have P5 := hide ((hb.block w1.heap.size (by omega)).trans P4.out)
  have D5 := hide (D4.out.trans (hb.mono D4.out.size))
  have O5 := hide (O4.out.below hb)
  clear hb j0 j1 j2 j3 j4 j5 G4 P4 D4 O4
  go_wp2_with fail
  refine (CI.out _).mono ?_
  rintro e w6 ⟨hg_, eg, hd_, ed, hy_, ey, rfl, ho, hb⟩
  have hs6 := hb.size
  have G6 := hide ((hb.block w2.heap.size (by omega)).trans G5.out)
  have P6 := hide ((hb.block w1.heap.size (by omega)).trans P5.out)
  have D6 := hide (D5.out.trans (hb.mono D5.out.size))
  have O6 := hide (O5.out.below hb)
  have F6 := hide ho.rpf
  have ha6 := hide ((Below.refl w6.heap.size w6).alloc (Nat.le_refl _) (rpO hg_ m eg hd_ m ed 0 ep hy_ m ey none 0 0))
  obtain ⟨k0, k1, k2, k3, k4, k5⟩ := blk6 P6.out
  have a0 := Go.Lib.cell?_alloc_some (rpO hg_ m eg hd_ m ed 0 ep hy_ m ey none 0 0) k0
  have a1 := Go.Lib.cell?_alloc_some (rpO hg_ m eg hd_ m ed 0 ep hy_ m ey none 0 0) k1
  have a2 := Go.Lib.cell?_alloc_some (rpO hg_ m eg hd_ m ed 0 ep hy_ m ey none 0 0) k2
  have a3 := Go.Lib.cell?_alloc_some (rpO hg_ m eg hd_ m ed 0 ep hy_ m ey none 0 0) k3
  have a4 := Go.Lib.cell?_alloc_some (rpO hg_ m eg hd_ m ed 0 ep hy_ m ey none 0 0) k4
  have a5 := Go.Lib.cell?_alloc_some (rpO hg_ m eg hd_ m ed 0 ep hy_ m ey none 0 0) k5
  clear ho hb k0 k1 k2 k3 k4 k5 G5 P5 D5 O5
  go_wp2_with fail
  refine (CE.out _ _ _ _ _ _ _ _ _ _ _ _ _ (F6.out.below ha6.out) ((F1.out.below D6.out).below ha6.out)).mono ?_
  rintro e w7 ⟨rfl, hb⟩
  have hb7 := ha6.out.trans (hb.mono ha6.out.size)
  have G7 := hide ((hb7.block w2.heap.size (by omega)).trans G6.out)
  have D7 := hide (D6.out.trans (hb7.mono D6.out.size))
  have O7 := hide (O6.out.below hb7)
  clear hb hb7 a0 a1 a2 a3 a4 a5 ha6 F6 P6 G6 D6 O6
  obtain ⟨j0, j1, j2, j3, j4, j5⟩ := blk6 G7.out
  go_wp2_with fail
  refine (heldRepl_new gg_ cg gd cd gy cy m _ ep _ hm O7.out).mono ?_
  rintro e w8 ⟨rfl, hb⟩
  have D8 := hide (D7.out.trans (hb.mono D7.out.size))
  have B8 := hide (B1.out.trans (D8.out.mono B1.out.size))
  clear hb j0 j1 j2 j3 j4 j5
  go_wp2
  go_ret
  exact ⟨rfl, B8.out⟩
end Go.Proofs.Ytbcljhafdpnjbbd.fnExactNewRepl
