/-
  Contract of the specification's spoilt: some text, not much longer.
-/
import Derived.Test.YthagpceagifjnaaDoorL3Cur
import Derived.Test.YthagpceagifjnaaDoorL1Bytes
namespace Go.Proofs.YthagpceagifjnaaDoor.L1
open Go.RowKit
set_option linter.unusedVariables false

theorem grown_then_below {a b c : World} {r : Option Nat} (h : a.grownBy b r) (k : Below a.heap.size b c) : a.grownBy c r :=
  ⟨k.os.trans h.os, k.tape.trans h.tape, k.output.trans h.output, Nat.le_trans h.size k.size, fun i hi hn => (k.block i hi).trans (h.block i hi hn)⟩
theorem Cur.keptBelow {w w' : World} {b N B : Nat} (h : Cur w b N) (hb : Below B w w') (hB : b < B) : Cur w' b N := h.kept fun k hk => hb.block k (by omega)
theorem one_conv (w : World) (x : Int) :
    (convert 22 9 (.slice (some ⟨w.heap.size, 0, none⟩) 1 1)).run Tryd.prog (w.alloc (.cells #[.int .u8 x] 5)) = .ok (.string (strOfNums [x])) (w.alloc (.cells #[.int .u8 x] 5)) :=
  run_convert_bytes_arg _ 22 5 Tryd.underlying22 Tryd.underlying5 w.heap.size 0 1 1 [x] rfl (fun i hi => by
    obtain rfl : i = 0 := by omega
    simp) 9 Tryd.underlying9

set_option maxRecDepth 100000 in
set_option maxHeartbeats 1000000 in
theorem spoilt_any (b N : Nat) (t wi : ByteArray) (w : World) (h : Cur w b N) (hN : N ≤ 10000000) (ht : t.size ≤ 100000) (hw1 : 1 ≤ wi.size) (hw2 : wi.size ≤ 100) :
    Calls Tryd.prog 94 #[.pointer (some ⟨b, 0, none⟩), .string t, .string wi] w fun e w' => ∃ (u : ByteArray), e = .returned (.string u) ∧ u.size ≤ t.size + 2 ∧ Cur w' b (N + 14) ∧ w.grownBy w' (some b) := by
  have HC := hide h
  clear h
  go_enter Tryd.func94, Tryd.ntmps94
  go_wp2_with fail
  refine (pick_any b N _ _ HC.out (by omega) (by omega) (by omega)).mono ?_
  rintro e w1 ⟨x, rfl, hx0, hx1, hx2, hc1, hg1⟩
  have hx3 : x < 3 := hx2 (by omega)
  obtain ⟨k0, rfl⟩ : ∃ k : Nat, x = (k : Int) := ⟨x.toNat, by omega⟩
  have hk0 : k0 ≤ 2 := by omega
  have H1 := hide hc1
  have G1 := hide hg1
  clear hc1 hg1 hx2
  go_wp2
  go_loopw [1, 7] (fun o i wr => ∃ (k : Nat) (u : ByteArray), k ≤ 2 ∧ u.size + k ≤ t.size + 2 ∧ i = .int .i64 (k : Int) ∧ o = .string u ∧ Hid (Cur wr b (N + 14 - 6 * k)) ∧ Hid (w.grownBy wr (some b))) (fun _ i _ => (intOf i).toNat)
  case atStart => exact ⟨k0, t, hk0, by omega, rfl, rfl, H1.out.mono (by omega), G1.out⟩
  case round =>
    obtain ⟨k, u, hk, hu, rfl, rfl, HCr, HGr⟩ := hrel
    by_cases hlt : 0 < k
    · have hltI : (0 : Int) < (k : Int) := by omega
      by_cases hu0 : 0 < u.size
      · have huI : (0 : Int) < (u.size : Int) := by omega
        go_wp2_with fail
        refine (pick_any b (N + 14 - 6 * k) _ _ HCr.out (by omega) (by omega) (by omega)).mono ?_
        rintro e w2 ⟨i, rfl, hi0, hi1, hi2, hc2, hg2⟩
        have hi3 : i < (u.size : Int) := hi2 (by omega)
        obtain ⟨j, rfl⟩ : ∃ j : Nat, i = (j : Int) := ⟨i.toNat, by omega⟩
        have hj : j < u.size := by omega
        have H2 := hide hc2
        have G2 := hide (grown_trans HGr.out hg2)
        clear hc2 hg2 hi2 HCr HGr
        go_wp2_with fail
        refine (pick_any b (N + 14 - 6 * k + 2) _ _ H2.out (by omega) (by omega) (by omega)).mono ?_
        rintro e w3 ⟨i2, rfl, hp0, hp1, hp2, hc3, hg3⟩
        have hp3 : i2 < (wi.size : Int) := hp2 (by omega)
        obtain ⟨q, rfl⟩ : ∃ q : Nat, i2 = (q : Int) := ⟨i2.toNat, by omega⟩
        have hq : q < wi.size := by omega
        have H3 := hide hc3
        have G3 := hide (grown_trans G2.out hg3)
        have hcv := one_conv w3 ((wi[q]'hq).toNat : Int)
        have hWs : (strOfNums [((wi[q]'hq).toNat : Int)]).size = 1 := by rw [strOfNums_size]; rfl
        obtain ⟨Wd, hWd⟩ : ∃ Wd, Wd = strOfNums [((wi[q]'hq).toNat : Int)] := ⟨_, rfl⟩
        rw [← hWd] at hcv hWs
        have hWs2 : Wd.size ≤ 1 := by omega
        have hus : u.size ≤ 100002 := by omega
        have C3 := hide (H3.out.alloc (Obj.cells #[Value.int .u8 ((wi[q]'hq).toNat : Int)] 5))
        have D3 := hide (grown_trans G3.out (grown_alloc w3 (Obj.cells #[Value.int .u8 ((wi[q]'hq).toNat : Int)] 5) b))
        clear hc3 hg3 hp2 H2 G2 H3 G3 hWd hWs
        go_wp2_with fail
        refine (pick_any b (N + 14 - 6 * k + 4) _ _ C3.out (by omega) (by omega) (by omega)).mono ?_
        rintro e w4 ⟨z, rfl, hz0, hz1, hz2, hc4, hg4⟩
        have hz3 : z < 3 := hz2 (by omega)
        have H4 := hide hc4
        have G4 := hide (grown_trans D3.out hg4)
        have hj0I : (0 : Int) ≤ (j : Int) := by omega
        have hj1I : (j : Int) ≤ (u.size : Int) := by omega
        have hj2I : (j : Int) + 1 ≤ (u.size : Int) := by omega
        have hs1 := @ByteArray.size_extract u 0 j
        have hs2 := @ByteArray.size_extract u j u.size
        have hs3 := @ByteArray.size_extract u (j + 1) u.size
        have hb1 : (u.extract 0 j).size ≤ 100002 := by omega
        have hb2 : (u.extract j u.size).size ≤ 100002 := by omega
        have hb3 : (u.extract (j + 1) u.size).size ≤ 100002 := by omega
        have hz : z = 0 ∨ z = 1 ∨ z = 2 := by omega
        have HS := hide (And.intro hs1 (And.intro hs2 hs3))
        clear hc4 hg4 hz2 C3 D3 hs1 hs2 hs3 hcv
        rcases hz with rfl | rfl | rfl
        · go_wp2
          go_quiet (fail)
          go_wp2
          go_roundw
          case rel =>
            refine ⟨k - 1, _, by omega, ?_, by go_num, rfl, (H4.out.kept (fun _ _ => rfl)).mono (by omega), grown_trans G4.out ⟨rfl, rfl, rfl, Nat.le_refl _, fun _ _ _ => rfl⟩⟩
            have := HS.out
            simp only [ByteArray.size_append]
            omega
          case measure => simp [intOf]; omega
        · go_wp2
          go_quiet (fail)
          go_wp2
          go_roundw
          case rel =>
            refine ⟨k - 1, _, by omega, ?_, by go_num, rfl, (H4.out.kept (fun _ _ => rfl)).mono (by omega), grown_trans G4.out ⟨rfl, rfl, rfl, Nat.le_refl _, fun _ _ _ => rfl⟩⟩
            have := HS.out
            simp only [ByteArray.size_append]
            omega
          case measure => simp [intOf]; omega
        · go_wp2
          go_quiet (fail)
          go_wp2
          go_roundw
          case rel =>
            refine ⟨k - 1, _, by omega, ?_, by go_num, rfl, (H4.out.kept (fun _ _ => rfl)).mono (by omega), grown_trans G4.out ⟨rfl, rfl, rfl, Nat.le_refl _, fun _ _ _ => rfl⟩⟩
            have := HS.out
            simp only [ByteArray.size_append]
            omega
          case measure => simp [intOf]; omega
      · have huI : ¬ (0 : Int) < (u.size : Int) := by omega
        go_wp2
        go_ret
        exact ⟨_, rfl, by omega, HCr.out.mono (by omega), HGr.out⟩
    · have hltI : ¬ (0 : Int) < (k : Int) := by omega
      go_wp2
      go_ret
      exact ⟨_, rfl, by omega, HCr.out.mono (by omega), HGr.out⟩
end Go.Proofs.YthagpceagifjnaaDoor.L1
