/-
  The walk of the law FnExactReadLabels: it returns true at every text; memory that was there stays as it was.
-/
import Derived.Test.YtbcljhafdpnjbauDoorL3SRead
import Derived.Test.YtbcljhafdpnjbauDoorL3Read
import Derived.Test.YtbcljhafdpnjbauDoorL3LawL
namespace Go.Proofs.YtbcljhafdpnjbauDoor.fnExactReadLabels
open Go.RowKit L1 L3
set_option linter.unusedVariables false

set_option maxRecDepth 100000 in
set_option maxHeartbeats 4000000 in
theorem walk (a0 : ByteArray) (w : World) (w0 : a0.size ≤ maxLen) :
    Calls Tryd.prog 6 #[.string a0] w fun e w' => e = .returned (.bool true) ∧ Below w.heap.size w w' := by
  unfold maxLen at w0
  by_cases hbig : 1048576 < (a0.size : Int)
  · clear w0
    go_enter Tryd.func6, Tryd.ntmps6
    go_wp2
    go_ret
    exact ⟨rfl, Below.refl _ _⟩
  have hsmall : a0.size ≤ 1048576 := by omega
  obtain ⟨r, hr⟩ : ∃ r, r = rdRes a0 := ⟨_, rfl⟩
  have c1 := fun w => specRead_any a0 w hsmall
  have c2 := fun w => implRead_any a0 w hsmall
  have hle := rd_len a0
  rw [← hr] at hle c1 c2
  obtain ⟨ys, hy⟩ : ∃ ys, ys = r.getD [] := ⟨_, rfl⟩
  obtain ⟨m, hmm⟩ : ∃ m, m = ys.length := ⟨_, rfl⟩
  obtain ⟨ok, hok⟩ : ∃ ok, ok = r.isSome := ⟨_, rfl⟩
  simp only [RetLb, ← hy, ← hmm, ← hok] at c1 c2
  rw [← hy, ← hmm] at hle
  have hm2 : m ≤ 1048576 := by omega
  have hq1 : ¬ (1 + 2 * (m : Int)) < 0 := by omega
  have C1 := hide c1
  have C2 := hide c2
  have HM := hide hmm.symm
  clear c1 c2 hr hy hmm hok
  go_enter Tryd.func6, Tryd.ntmps6
  go_wp2_with fail
  refine (C1.out  _ ).mono ?_
  rintro e w1 ⟨v0, rfl, ho, hb⟩
  obtain ⟨b0, q0, rfl, s0, _⟩ := own_formL ho
  have B_1 := hide hb
  have Z_1 := hide hb.size
  have U_1 := hide s0
  have KU := hide (fun (x : Addr) (hx : b0 = some x) => (ho.lt x.block (by rw [hx]; rfl)).2)
  clear hb  ho s0
  go_wp2_with fail
  refine (C2.out  _ ).mono ?_
  rintro e w2 ⟨v1, rfl, ho, hb⟩
  obtain ⟨b1, q1, rfl, _, _⟩ := own_formL ho
  have U_2 := hide (U_1.out.below hb)
  have B_2 := hide (B_1.out.trans (hb.mono B_1.out.size))
  have Z_2 := hide hb.size
  have G_2 := hide ho
  clear hb U_1 ho
  go_wp2_with fail
  refine (eqLabelS_same _ _ ys m _ _ _ HM.out (own_slL G_2.out) U_2.out hm2).mono ?_
  rintro e w3 ⟨rfl, hb⟩
  have U_3 := hide (U_2.out.below hb)
  have G_3 := hide (own_belowT G_2.out hb)
  have B_3 := hide (B_2.out.trans (hb.mono B_2.out.size))
  have Z_3 := hide hb.size
  clear hb U_2 G_2 
  go_wp2_with fail
  refine (markLabelS_all w1.heap.size _ ys m _ hm2 G_3.out (Nat.le_trans Z_2.out Z_3.out)).mono ?_
  rintro e w4 ⟨rfl, ho, hb, hg⟩
  have U_4 := hide (slL_base U_3.out hb (fun x hx => Nat.lt_of_lt_of_le (KU.out x hx) (Nat.le_refl _)))
  have B_4 := hide (B_3.out.trans (hb.mono B_1.out.size))
  have Z_4 := hide hb.size
  have H_4 := hide (own_slL ho)
  clear hb U_3 hg ho G_3
  go_wp2_with fail
  refine (heldLabelS_any _ m _ _ hm2 H_4.out).mono ?_
  rintro e w5 ⟨rfl, hb⟩
  have U_5 := hide (U_4.out.below hb)
  have H_5 := hide (H_4.out.below hb)
  have B_5 := hide (B_4.out.trans (hb.mono B_4.out.size))
  have Z_5 := hide hb.size
  clear hb U_4 H_4 
  go_wp2_with fail
  refine (C2.out  _ ).mono ?_
  rintro e w6 ⟨v2, rfl, ho, hb⟩
  obtain ⟨b2, q2, rfl, s2, _⟩ := own_formL ho
  have U_6 := hide (U_5.out.below hb)
  have H_6 := hide (H_5.out.below hb)
  have B_6 := hide (B_5.out.trans (hb.mono B_5.out.size))
  have Z_6 := hide hb.size
  have V_6 := hide s2
  clear hb U_5 H_5 ho s2
  go_wp2_with fail
  refine (eqLabelS_same _ _ ys m _ _ _ HM.out V_6.out U_6.out hm2).mono ?_
  rintro e w7 ⟨rfl, hb⟩
  have U_7 := hide (U_6.out.below hb)
  have H_7 := hide (H_6.out.below hb)
  have V_7 := hide (V_6.out.below hb)
  have B_7 := hide (B_6.out.trans (hb.mono B_6.out.size))
  have Z_7 := hide hb.size
  clear hb U_6 H_6 V_6 
  clear V_7
  clear U_7
  go_wp2_with fail
  refine (heldLabelS_any _ m _ _ hm2 H_7.out).mono ?_
  rintro e w8 ⟨rfl, hb⟩
  have H_8 := hide (H_7.out.below hb)
  have B_8 := hide (B_7.out.trans (hb.mono B_7.out.size))
  have Z_8 := hide hb.size
  clear hb H_7 
  go_wp2
  go_ret
  exact ⟨rfl, B_8.out⟩
end Go.Proofs.YtbcljhafdpnjbauDoor.fnExactReadLabels
