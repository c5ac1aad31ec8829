/-
  Contracts: spec.l13HeadText, spec.HeadText.
-/
import Derived.Test.YtbcnkglcfjineakDoorL13HTM
import Derived.Test.YtbcnkglcfjineakDoorL13SGood
import Derived.Test.YtbcnkglcfjineakDoorL13SayS
namespace Go.Proofs.YtbcnkglcfjineakDoor.L13
open Go.RowKit L1
set_option linter.unusedVariables false

set_option maxRecDepth 100000 in
set_option maxHeartbeats 4000000 in
theorem specl13HeadText_any (a : Option Addr) (L : List Rw) (n cap : Nat) (B : Int) (w : World) (hn : L.length = n) (hm : n ≤ 1048576) (hs : SlR w a L) (hg : GoodH L B) :
    Calls Tryd.prog 32 #[.agg #[.slice a n cap, .int .i64 B]] w fun e w' => e = .returned (.string (headT L B)) ∧ Below w.heap.size w w' := by
  have HS := hide hs
  have hn8 : n ≤ 8 := by rw [← hn]; exact hg.1
  have CB := hide (fun wx => l1Num_any B.toNat wx (by have := hg.2.1; omega))
  rw [← numT_pos hg.2.1.1, show ((B.toNat : Nat) : Int) = B by have := hg.2.1; omega] at CB
  have hbz := numT_sz B (by have := hg.2.1; omega) (by have := hg.2.1; omega)
  have HG : Hid (UpTo L L.length) := hg.2.2
  have HN := hide hn
  unfold headT
  obtain ⟨NB, hNB⟩ : ∃ NB, NB = numT B := ⟨_, rfl⟩
  rw [← hNB] at CB hbz ⊢
  obtain ⟨P, hP⟩ : ∃ P, P = NB ++ ⟨#[10]⟩ := ⟨_, rfl⟩
  rw [← hP]
  have hPz : P.size ≤ 13 := by rw [hP, ByteArray.size_append, one10]; omega
  have q0 : ∀ w : World, (Op.stringOp .add NB (⟨#[10]⟩ : ByteArray)).run Tryd.prog w = .ok (.string P) w := fun w => by rw [hP]; exact run_string_add_sum w _ _ (by rw [one10]; omega)
  clear hs hg hn hNB hP hbz
  go_enter Tryd.func32, Tryd.ntmps32
  go_wp2_with fail
  refine (CB.out _).mono ?_
  rintro e w1 ⟨rfl, hb⟩
  obtain ⟨k0, k1, _, _⟩ := blkp ((hb.block w.heap.size (by simp)).trans (L8.blk_new _ _))
  have B1 := hide (((Below.refl w.heap.size w).alloc (Nat.le_refl _) (.cells #[.slice a n cap, .int .i64 B] 41 (0, 0))).trans (hb.mono (by simp)))
  have Z1 : Hid (w.heap.size + 1 ≤ w1.heap.size) := by have := hb.size; show _ ≤ _; simp at this; omega
  clear hb
  go_wp2
  go_loopw [3, 15] (fun tv i wr => ∃ k : Nat, k ≤ n ∧ i = .int .i64 k ∧ tv = .string (P ++ rowsT (L.take k)) ∧ Below w.heap.size w wr) (fun _ i _ => n - (intOf i).toNat)
  case atStart => exact ⟨0, Nat.zero_le _, rfl, by show _ = Value.string (P ++ ByteArray.empty); rw [empty_str], B1.out⟩
  case round =>
    obtain ⟨k, hk, rfl, rfl, hbel⟩ := hrel
    by_cases hlt : k < n
    · have hkx : k < L.length := by rw [HN.out]; exact hlt
      obtain ⟨b, off, rfl, ai, ci, hat0⟩ := HS.out k hkx
      have hat := hat0.below hbel
      have hg := (HG.out k (by rw [HN.out]; exact hlt)).1
      have hc := hat.s
      have hd := hat.x
      have hl := hat0.l
      have hrt := rowsT_take L k hkx
      have hrz := rowsT_sz HG.out (Nat.le_refl _) k (by omega)
      obtain ⟨p, hp⟩ : ∃ p, p = gr L k := ⟨_, rfl⟩
      rw [← hp] at hc hd hl hg hrt
      obtain ⟨x, l⟩ := p
      simp only at hc hd hl hrt
      obtain ⟨m, hm2⟩ : ∃ m, m = l.length := ⟨_, rfl⟩
      rw [← hm2] at hd
      have hx8 : x.size ≤ 8 := hg.1.1.2
      have hm40 : m ≤ 40 := by rw [hm2]; exact hg.2.2.1
      have HOK := hide (fun j hj => (hg.2.2.2 j hj).1)
      have hltI : (k : Int) < (n : Int) := by omega
      have HM := hide hm2
      have HL := hide hl
      have HRT := hide hrt
      obtain ⟨Q, hQ⟩ : ∃ Q, Q = P ++ rowsT (L.take k) := ⟨_, rfl⟩
      rw [← hQ]
      have hQz : Q.size ≤ 20000 := by rw [hQ, ByteArray.size_append]; omega
      have HQ := hide hQ
      have BB := hide hbel
      clear hat0 hat hp hm2 hl hrt hrz hQ hbel hg
      go_wp2
      obtain ⟨X, hX⟩ : ∃ X, X = wr.heap.size := ⟨_, rfl⟩
      obtain ⟨W0, hW0⟩ : ∃ W0, wr.alloc (.cells #[.string x, .slice ai m ci] 69 (0, 0)) = W0 := ⟨_, rfl⟩
      have x0 : W0.heap[X]? = some (.cells #[.string x, .slice ai m ci] 69 (0, 0)) := by rw [← hW0, hX]; exact L8.blk_new _ _
      have b0 := BB.out.alloc BB.out.size (.cells #[.string x, .slice ai m ci] 69 (0, 0))
      rw [hW0] at b0 ⊢
      rw [← hX]
      have X0 := hide x0
      have Y0 := hide b0
      clear hX hW0 x0 b0 BB hc hd
      go_loopw [3, 22] (fun tv i wq => ∃ j : Nat, j ≤ m ∧ i = .int .i64 j ∧ tv = .string (Q ++ linesT x (l.take j)) ∧ Below w.heap.size w wq ∧ Hid (wq.heap[X]? = some (.cells #[.string x, .slice ai m ci] 69 (0, 0)))) (fun _ i _ => m - (intOf i).toNat)
      case atStart => exact ⟨0, Nat.zero_le _, rfl, by show _ = Value.string (Q ++ ByteArray.empty); rw [empty_str], Y0.out, X0.out⟩
      case round =>
        clear Y0 X0
        obtain ⟨j, hj, rfl, rfl, hbel, HBX⟩ := hrel
        by_cases hlj : j < m
        · obtain ⟨b2, o2, rfl, hs1, hs2⟩ := HL.out.below hbel j (by rw [← HM.out]; exact hlj)
          have hok := HOK.out j (by rw [← HM.out]; exact hlj)
          have hlt2 := linesT_take x l j (by rw [← HM.out]; exact hlj)
          have hlz := linesT_sz (nm := x) (l := l) hx8 HOK.out j (by rw [← HM.out]; omega)
          have hz35 := lineT_sz hx8 hok
          obtain ⟨p, hp⟩ : ∃ p, p = l.getD j (0, 0) := ⟨_, rfl⟩
          rw [← hp] at hs1 hs2 hok hlt2 hz35
          obtain ⟨u, v⟩ := p
          simp only at hs1 hs2
          have hsz := sayT_sz hx8 hok
          have CT := hide (fun wx => specl13Text_any x u v wx hx8 hok.1 hok.2.1 hok.2.2.1 hok.2.2.2)
          have hF0 : lineT x (u, v) = sayT x u v ++ ⟨#[10]⟩ := rfl
          obtain ⟨E, hE⟩ : ∃ E, E = sayT x u v := ⟨_, rfl⟩
          rw [← hE] at CT hsz hF0
          obtain ⟨F, hF⟩ : ∃ F, F = lineT x (u, v) := ⟨_, rfl⟩
          rw [← hF] at hF0 hlt2 hz35
          have q1 : ∀ w : World, (Op.stringOp .add E (⟨#[10]⟩ : ByteArray)).run Tryd.prog w = .ok (.string F) w := fun w => by rw [hF0]; exact run_string_add_sum w _ _ (by rw [one10]; omega)
          have hljI : (j : Int) < (m : Int) := by omega
          obtain ⟨R, hR⟩ : ∃ R, R = Q ++ linesT x (l.take j) := ⟨_, rfl⟩
          rw [← hR]
          have hRz : R.size ≤ 40000 := by rw [hR, ByteArray.size_append]; omega
          have hRF : Q ++ linesT x (l.take (j + 1)) = R ++ F := by rw [hlt2, hR, str_assoc]
          have q2 : ∀ w : World, (Op.stringOp .add R F).run Tryd.prog w = .ok (.string (R ++ F)) w := fun w => run_string_add_sum w _ _ (by omega)
          obtain ⟨c0, c1, _, _⟩ := blkp HBX.out
          have a0 : ∀ ob, (wr.alloc ob).cell? ⟨X, 0, none⟩ = some (.string x) := fun ob => Go.Lib.cell?_alloc_some ob c0
          have HRF := hide hRF
          have BB2 := hide hbel
          clear hp hok hlt2 hlz hsz hF0 hE hF hR hRF hbel c1
          go_wp2_with fail
          refine (CT.out _).mono ?_
          rintro e w5 ⟨rfl, hb⟩
          have hal := (Below.refl wr.heap.size wr).alloc (Nat.le_refl _) (.cells #[.int .i64 u, .int .i64 v] 71 (0, 0))
          have h5 := hal.trans (hb.mono (by simp))
          have B5 := hide (BB2.out.trans (h5.mono BB2.out.size))
          have X5 := hide ((h5.block X (Array.getElem?_eq_some_iff.1 HBX.out).1).trans HBX.out)
          clear hb hal h5 a0 c0 BB2 HBX hs1 hs2
          go_wp2
          go_roundw
          case rel => exact ⟨j + 1, by omega, by go_num, by rw [HRF.out], B5.out, X5.out⟩
          case measure => simp [intOf]; omega
        · have hltJ : ¬ (j : Int) < (m : Int) := by omega
          obtain rfl : j = m := by omega
          have e1 : l.take j = l := List.take_of_length_le (by rw [← HM.out]; exact Nat.le_refl _)
          rw [e1]
          have HT7 : Hid (Q ++ linesT x l = P ++ rowsT (L.take (k + 1))) := by
            show Q ++ linesT x l = P ++ rowsT (L.take (k + 1))
            rw [HRT.out, ← str_assoc, ← HQ.out]
          have B7 := hide hbel
          clear e1 hbel HBX
          go_wp2
          go_roundw
          case rel => exact ⟨k + 1, by omega, by go_num, by rw [HT7.out], B7.out⟩
          case measure => simp [intOf]; omega
    · have hltI : ¬ (k : Int) < (n : Int) := by omega
      obtain rfl : k = n := by omega
      have e1 : L.take k = L := List.take_of_length_le (by rw [HN.out]; exact Nat.le_refl _)
      rw [e1]
      have BB := hide hbel
      clear e1 hbel
      go_wp2
      go_ret
      exact ⟨rfl, BB.out⟩
set_option maxRecDepth 100000 in
set_option maxHeartbeats 1000000 in
theorem specHeadText_any (a : Option Addr) (L : List Rw) (n cap : Nat) (B : Int) (w : World) (hn : L.length = n) (hm : n ≤ 1048576) (hs : SlR w a L) (hst : TxR L) (hlx : ∀ j, j < L.length → (gr L j).l.length ≤ 1048576) (t : ByteArray) (ok : Bool) (hok : ok = true ↔ GoodH L B) (htx : t = if ok then headT L B else ByteArray.empty) :
    Calls Tryd.prog 15 #[.agg #[.slice a n cap, .int .i64 B]] w fun e w' => e = .returned (.tuple #[.string t, .bool ok]) ∧ Below w.heap.size w w' := by
  have CG := hide (fun w hs => specGoodHead_any a L n cap B w hn hm hs hst hlx ok hok)
  have HS := hide hs
  cases ok with
  | false =>
    obtain rfl : t = ByteArray.empty := htx
    clear hok hs hst hlx hn
    go_enter Tryd.func15, Tryd.ntmps15
    go_wp2_with fail
    refine (CG.out _ (HS.out.below ((Below.refl _ _).alloc (Nat.le_refl _) _))).mono ?_
    rintro e w1 ⟨rfl, hb⟩
    obtain ⟨k0, k1, _, _⟩ := blkp ((hb.block w.heap.size (by simp)).trans (L8.blk_new _ _))
    have B1 := hide (((Below.refl w.heap.size w).alloc (Nat.le_refl _) (.cells #[.slice a n cap, .int .i64 B] 41 (0, 0))).trans (hb.mono (by simp)))
    have Z1 : Hid (w.heap.size + 1 ≤ w1.heap.size) := by have := hb.size; show _ ≤ _; simp at this; omega
    clear hb
    go_wp2
    go_ret2
    exact ⟨rfl, B1.out⟩
  | true =>
    obtain rfl : t = headT L B := htx
    have CT := hide (fun wx (hb : Below w.heap.size w wx) => specl13HeadText_any a L n cap B wx hn hm (hs.below hb) (hok.1 rfl))
    obtain ⟨E, hE⟩ : ∃ E, E = headT L B := ⟨_, rfl⟩
    rw [← hE] at CT ⊢
    clear hok hs hst hlx hn hE
    go_enter Tryd.func15, Tryd.ntmps15
    go_wp2_with fail
    refine (CG.out _ (HS.out.below ((Below.refl _ _).alloc (Nat.le_refl _) _))).mono ?_
    rintro e w1 ⟨rfl, hb⟩
    obtain ⟨k0, k1, _, _⟩ := blkp ((hb.block w.heap.size (by simp)).trans (L8.blk_new _ _))
    have B1 := hide (((Below.refl w.heap.size w).alloc (Nat.le_refl _) (.cells #[.slice a n cap, .int .i64 B] 41 (0, 0))).trans (hb.mono (by simp)))
    have Z1 : Hid (w.heap.size + 1 ≤ w1.heap.size) := by have := hb.size; show _ ≤ _; simp at this; omega
    clear hb
    go_wp2_with fail
    refine (CT.out _ B1.out).mono ?_
    rintro e w2 ⟨rfl, hb⟩
    have B2 := hide (B1.out.trans (hb.mono B1.out.size))
    clear hb
    go_wp2
    go_ret2
    exact ⟨rfl, B2.out⟩
end Go.Proofs.YtbcnkglcfjineakDoor.L13
