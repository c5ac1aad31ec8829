/-
  Contract: impl.HeadText.
-/
import Derived.Test.YtbcnkglcfjineakDoorL13HTM
import Derived.Test.YtbcnkglcfjineakDoorL13Good
import Derived.Test.YtbcnkglcfjineakDoorL13Bld
import Derived.Test.YtbcnkglcfjineakDoorL13SayI
namespace Go.Proofs.YtbcnkglcfjineakDoor.L13
open Go.RowKit L1
set_option linter.unusedVariables false

theorem row_kind (v0 v1 : Value) : ∀ c fz, Obj.cells #[v0, v1] 69 (0, 0) ≠ .cells c 5 fz := by
  intro c fz h
  injection h with _ h2 _
  exact absurd h2 (by decide)
theorem arr_back (t : ByteArray) : (⟨t.data.toList.toArray⟩ : ByteArray) = t := by
  apply ByteArray.ext
  simp
set_option maxRecDepth 100000 in
set_option maxHeartbeats 4000000 in
theorem implHeadText_any (a : Option Addr) (L : List Rw) (n cap : Nat) (B : Int) (w : World) (hn : L.length = n) (hm : n ≤ 1048576) (hs : SlR w a L) (hst : TxR L) (hlx : ∀ j, j < L.length → (gr L j).l.length ≤ 1048576) (ht : L1.Pow10 w) (t : ByteArray) (ok : Bool) (hok : ok = true ↔ GoodH L B) (htx : t = if ok then headT L B else ByteArray.empty) :
    Calls Tryd.prog 17 #[.agg #[.slice a n cap, .int .i64 B]] w fun e w' => e = .returned (.tuple #[.string t, .bool ok]) ∧ Below w.heap.size w w' := by
  have CG := hide (fun w hs => implGoodHead_any a L n cap B w hn hm hs hst hlx ok hok)
  have HS := hide hs
  have HT := hide ht
  clear ht
  cases ok with
  | false =>
    obtain rfl : t = ByteArray.empty := htx
    clear hok hs hst hlx hn
    go_enter Tryd.func17, Tryd.ntmps17
    go_wp2_with fail
    refine (CG.out _ (HS.out.below ((Below.refl _ _).alloc (Nat.le_refl _) _))).mono ?_
    rintro e w1 ⟨rfl, hb⟩
    obtain ⟨k0, k1, _, _⟩ := blkp ((hb.block w.heap.size (by simp)).trans (L8.blk_new _ _))
    have B1 := hide (((Below.refl w.heap.size w).alloc (Nat.le_refl _) (.cells #[.slice a n cap, .int .i64 B] 41 (0, 0))).trans (hb.mono (by simp)))
    have Z1 : Hid (w.heap.size + 1 ≤ w1.heap.size) := by have := hb.size; show _ ≤ _; simp at this; omega
    clear hb
    go_wp2
    go_ret2
    exact ⟨rfl, B1.out⟩
  | true =>
    have hg : GoodH L B := hok.1 rfl
    obtain rfl : t = headT L B := htx
    have hn8 : n ≤ 8 := by rw [← hn]; exact hg.1
    have CB := hide (fun wx (hb : Below w.heap.size w wx) => itoa_any B (by have := hg.2.1; omega) (by have := hg.2.1; omega) wx (HT.out.below hb))
    have hbz := numT_sz B (by have := hg.2.1; omega) (by have := hg.2.1; omega)
    have HG : Hid (UpTo L L.length) := hg.2.2
    have HN := hide hn
    unfold headT
    obtain ⟨NB, hNB⟩ : ∃ NB, NB = numT B := ⟨_, rfl⟩
    rw [← hNB] at CB hbz ⊢
    obtain ⟨P, hP⟩ : ∃ P, P = NB ++ ⟨#[10]⟩ := ⟨_, rfl⟩
    rw [← hP]
    have hPz : P.size ≤ 13 := by rw [hP, ByteArray.size_append, one10]; omega
    have q0 : ∀ w : World, (Op.stringOp .add NB (⟨#[10]⟩ : ByteArray)).run Tryd.prog w = .ok (.string P) w := fun w => by rw [hP]; exact run_string_add_sum w _ _ (by rw [one10]; omega)
    clear hok hs hst hlx hg hn hNB hP hbz
    go_enter Tryd.func17, Tryd.ntmps17
    go_wp2_with fail
    refine (CG.out _ (HS.out.below ((Below.refl _ _).alloc (Nat.le_refl _) _))).mono ?_
    rintro e w1 ⟨rfl, hb⟩
    obtain ⟨k0, k1, _, _⟩ := blkp ((hb.block w.heap.size (by simp)).trans (L8.blk_new _ _))
    have B1 := hide (((Below.refl w.heap.size w).alloc (Nat.le_refl _) (.cells #[.slice a n cap, .int .i64 B] 41 (0, 0))).trans (hb.mono (by simp)))
    have Z1 : Hid (w.heap.size + 1 ≤ w1.heap.size) := by have := hb.size; show _ ≤ _; simp at this; omega
    clear hb
    have a0 : ∀ ob, (w1.alloc ob).cell? ⟨w.heap.size, 0, none⟩ = some (.slice a n cap) := fun ob => Go.Lib.cell?_alloc_some ob k0
    have a1 : ∀ ob, (w1.alloc ob).cell? ⟨w.heap.size, 1, none⟩ = some (.int .i64 B) := fun ob => Go.Lib.cell?_alloc_some ob k1
    have FB := hide (fresh_bld w1)
    go_wp2_with fail
    refine (CB.out _ (B1.out.alloc B1.out.size _)).mono ?_
    rintro e w2 ⟨rfl, hb⟩
    have FB2 := hide (isBuilderF_below FB.out hb)
    have B2 := hide ((B1.out.alloc B1.out.size (.cells #[.pointer none, .slice none 0 0] 61)).trans (hb.mono (by have := Z1.out; simp; omega)))
    have Z2 : Hid (w1.heap.size + 1 ≤ w2.heap.size) := by have := hb.size; show _ ≤ _; simp at this; omega
    have d0 := (hb.cell (p := ⟨w.heap.size, 0, none⟩) (blk_lt (a0 _))).trans (a0 (.cells #[.pointer none, .slice none 0 0] 61))
    clear hb a0 a1 FB k0 k1
    go_wp2_with fail
    refine (writeStringK w1.heap.size w1.heap.size (bc ByteArray.empty) P w2 FB2.out (by rw [bc_len]; simp; omega) (by have := Z2.out; omega)).mono ?_
    rintro e w3 ⟨rfl, hB, hb, _⟩
    have FB3 : Hid (Lib.IsBuilderF 61 5 w1.heap.size w1.heap.size (bc P) w3) := by
      show Lib.IsBuilderF _ _ _ _ _ _
      have e1 := bc_append ByteArray.empty P
      rw [str_empty] at e1
      rw [e1]
      exact .inr hB
    have B3 := hide (B2.out.trans (hb.mono (by have := Z1.out; omega)))
    have Z3 : Hid (w1.heap.size + 1 ≤ w3.heap.size) := by have := hb.size; have := Z2.out; show _ ≤ _; omega
    have d1 := (hb.cell (p := ⟨w.heap.size, 0, none⟩) (by show w.heap.size < _; have := Z1.out; omega)).trans d0
    clear hb hB d0 FB2 B2 Z2
    go_wp2
    go_loopw [20] (fun i wr => ∃ k : Nat, k ≤ n ∧ i = .int .i64 k ∧ Hid (Lib.IsBuilderF 61 5 w1.heap.size w1.heap.size (bc (P ++ rowsT (L.take k))) wr) ∧ Below w.heap.size w wr ∧ Hid (w1.heap.size + 1 ≤ wr.heap.size)) (fun i _ => n - (intOf i).toNat)
    case atStart => exact ⟨0, Nat.zero_le _, rfl, by show Lib.IsBuilderF _ _ _ _ (bc (P ++ ByteArray.empty)) _; rw [empty_str]; exact FB3.out, B3.out, Z3.out⟩
    case round =>
      clear FB3 B3 Z3 d1
      obtain ⟨k, hk, rfl, HB, hbel, HZ⟩ := hrel
      by_cases hlt : k < n
      · have hkx : k < L.length := by rw [HN.out]; exact hlt
        obtain ⟨b, off, rfl, ai, ci, hat0⟩ := HS.out k hkx
        have hat := hat0.below hbel
        have hg := (HG.out k (by rw [HN.out]; exact hlt)).1
        have hc := hat.s
        have hd := hat.x
        have hl := hat0.l
        have hrt := rowsT_take L k hkx
        have hrz := rowsT_sz HG.out (Nat.le_refl _) k (by omega)
        obtain ⟨p, hp⟩ : ∃ p, p = gr L k := ⟨_, rfl⟩
        rw [← hp] at hc hd hl hg hrt
        obtain ⟨x, l⟩ := p
        simp only at hc hd hl hrt
        obtain ⟨m, hm2⟩ : ∃ m, m = l.length := ⟨_, rfl⟩
        rw [← hm2] at hd
        have hx8 : x.size ≤ 8 := hg.1.1.2
        have hm40 : m ≤ 40 := by rw [hm2]; exact hg.2.2.1
        have HOK := hide (fun j hj => (hg.2.2.2 j hj).1)
        have hltI : (k : Int) < (n : Int) := by omega
        have HM := hide hm2
        have HL := hide hl
        have HRT := hide hrt
        obtain ⟨Q, hQ⟩ : ∃ Q, Q = P ++ rowsT (L.take k) := ⟨_, rfl⟩
        rw [← hQ] at HB
        have hQz : Q.size ≤ 20000 := by rw [hQ, ByteArray.size_append]; omega
        have HQ := hide hQ
        have BB := hide hbel
        clear hat0 hat hp hm2 hl hrt hrz hQ hbel hg
        go_wp2
        obtain ⟨X, hX⟩ : ∃ X, X = wr.heap.size := ⟨_, rfl⟩
        obtain ⟨W0, hW0⟩ : ∃ W0, wr.alloc (.cells #[.string x, .slice ai m ci] 69 (0, 0)) = W0 := ⟨_, rfl⟩
        have x0 : W0.heap[X]? = some (.cells #[.string x, .slice ai m ci] 69 (0, 0)) := by rw [← hW0, hX]; exact L8.blk_new _ _
        have b0 := BB.out.alloc BB.out.size (.cells #[.string x, .slice ai m ci] 69 (0, 0))
        have i0 := HB.out.alloc (.cells #[.string x, .slice ai m ci] 69 (0, 0))
        have z0 : w1.heap.size + 1 ≤ W0.heap.size := by rw [← hW0]; have := HZ.out; simp; omega
        have hXb : w1.heap.size + 1 ≤ X := by rw [hX]; exact HZ.out
        rw [hW0] at b0 i0 ⊢
        rw [← hX]
        have X0 := hide x0
        have Y0 := hide b0
        have I0 := hide i0
        have Z0 := hide z0
        have HX := hide hXb
        clear hX hW0 x0 b0 i0 z0 hXb HB BB HZ hc hd
        go_loopw [27] (fun i wq => ∃ j : Nat, j ≤ m ∧ i = .int .i64 j ∧ Hid (Lib.IsBuilderF 61 5 w1.heap.size w1.heap.size (bc (Q ++ linesT x (l.take j))) wq) ∧ Below w.heap.size w wq ∧ Hid (w1.heap.size + 1 ≤ wq.heap.size) ∧ Hid (wq.heap[X]? = some (.cells #[.string x, .slice ai m ci] 69 (0, 0)))) (fun i _ => m - (intOf i).toNat)
        case atStart => exact ⟨0, Nat.zero_le _, rfl, by show Lib.IsBuilderF _ _ _ _ (bc (Q ++ ByteArray.empty)) _; rw [empty_str]; exact I0.out, Y0.out, Z0.out, X0.out⟩
        case round =>
          clear I0 Y0 Z0 X0
          obtain ⟨j, hj, rfl, HB2, hbel, HZ2, HBX⟩ := hrel
          by_cases hlj : j < m
          · obtain ⟨b2, o2, rfl, hs1, hs2⟩ := HL.out.below hbel j (by rw [← HM.out]; exact hlj)
            have hok := HOK.out j (by rw [← HM.out]; exact hlj)
            have hlt2 := linesT_take x l j (by rw [← HM.out]; exact hlj)
            have hlz := linesT_sz (nm := x) (l := l) hx8 HOK.out j (by rw [← HM.out]; omega)
            have hz35 := lineT_sz hx8 hok
            obtain ⟨p, hp⟩ : ∃ p, p = l.getD j (0, 0) := ⟨_, rfl⟩
            rw [← hp] at hs1 hs2 hok hlt2 hz35
            obtain ⟨u, v⟩ := p
            simp only at hs1 hs2
            have hsz := sayT_sz hx8 hok
            have CT := hide (fun wx (hb : Below w.heap.size w wx) => implsayText_any x u v wx hx8 hok.1 hok.2.1 hok.2.2.1 hok.2.2.2 (HT.out.below hb))
            have hF0 : lineT x (u, v) = sayT x u v ++ ⟨#[10]⟩ := rfl
            obtain ⟨E, hE⟩ : ∃ E, E = sayT x u v := ⟨_, rfl⟩
            rw [← hE] at CT hsz hF0
            obtain ⟨F, hF⟩ : ∃ F, F = lineT x (u, v) := ⟨_, rfl⟩
            rw [← hF] at hF0 hlt2 hz35
            have q1 : ∀ w : World, (Op.stringOp .add E (⟨#[10]⟩ : ByteArray)).run Tryd.prog w = .ok (.string F) w := fun w => by rw [hF0]; exact run_string_add_sum w _ _ (by rw [one10]; omega)
            have hljI : (j : Int) < (m : Int) := by omega
            obtain ⟨R, hR⟩ : ∃ R, R = Q ++ linesT x (l.take j) := ⟨_, rfl⟩
            rw [← hR] at HB2
            have hRz : R.size ≤ 40000 := by rw [hR, ByteArray.size_append]; omega
            have hRF : Q ++ linesT x (l.take (j + 1)) = R ++ F := by rw [hlt2, hR, str_assoc]
            obtain ⟨c0, c1, _, _⟩ := blkp HBX.out
            have a0 : ∀ ob, (wr.alloc ob).cell? ⟨X, 0, none⟩ = some (.string x) := fun ob => Go.Lib.cell?_alloc_some ob c0
            have HRF := hide hRF
            have BB2 := hide hbel
            clear hp hok hlt2 hlz hsz hF0 hE hF hR hRF hbel c1
            go_wp2_with fail
            refine (CT.out _ (BB2.out.alloc BB2.out.size _)).mono ?_
            rintro e w5 ⟨rfl, hb⟩
            have hal := (Below.refl wr.heap.size wr).alloc (Nat.le_refl _) (.cells #[.int .i64 u, .int .i64 v] 71 (0, 0))
            have h5 := hal.trans (hb.mono (by simp))
            have FB5 := hide (isBuilderF_below HB2.out h5)
            have B5 := hide (BB2.out.trans (h5.mono BB2.out.size))
            have X5 := hide ((h5.block X (Array.getElem?_eq_some_iff.1 HBX.out).1).trans HBX.out)
            have Z5 : Hid (w1.heap.size + 1 ≤ w5.heap.size) := Nat.le_trans HZ2.out h5.size
            clear hb hal h5 a0 c0 HB2 BB2 HBX HZ2 hs1 hs2
            go_wp2_with fail
            refine (writeStringK w1.heap.size w1.heap.size (bc R) F w5 FB5.out (by rw [bc_len]; omega) (by have := Z5.out; omega)).mono ?_
            rintro e w6 ⟨rfl, hB, hb, hk⟩
            have FB6 : Hid (Lib.IsBuilderF 61 5 w1.heap.size w1.heap.size (bc (Q ++ linesT x (l.take (j + 1)))) w6) := by
              show Lib.IsBuilderF _ _ _ _ _ _
              rw [HRF.out, bc_append]
              exact .inr hB
            have B6 := hide (B5.out.trans (hb.mono (by have := Z1.out; omega)))
            have X6 := hide (hk X _ X5.out (by intro e; have e' : X = w1.heap.size := Option.some.inj e; have := HX.out; omega) (row_kind _ _))
            have Z6 : Hid (w1.heap.size + 1 ≤ w6.heap.size) := Nat.le_trans Z5.out hb.size
            clear hB hb hk FB5 B5 X5 Z5
            go_wp2
            go_roundw
            case rel => exact ⟨j + 1, by omega, by go_num, FB6.out, B6.out, Z6.out, X6.out⟩
            case measure => simp [intOf]; omega
          · have hltJ : ¬ (j : Int) < (m : Int) := by omega
            obtain rfl : j = m := by omega
            have e1 : l.take j = l := List.take_of_length_le (by rw [← HM.out]; exact Nat.le_refl _)
            rw [e1] at HB2
            have FB7 : Hid (Lib.IsBuilderF 61 5 w1.heap.size w1.heap.size (bc (P ++ rowsT (L.take (k + 1)))) wr) := by
              show Lib.IsBuilderF _ _ _ _ _ _
              rw [HRT.out, ← str_assoc, ← HQ.out]
              exact HB2.out
            have B7 := hide hbel
            clear e1 HB2 hbel HBX
            go_wp2
            go_roundw
            case rel => exact ⟨k + 1, by omega, by go_num, FB7.out, B7.out, HZ2.out⟩
            case measure => simp [intOf]; omega
      · have hltI : ¬ (k : Int) < (n : Int) := by omega
        obtain rfl : k = n := by omega
        have e1 : L.take k = L := List.take_of_length_le (by rw [HN.out]; exact Nat.le_refl _)
        rw [e1] at HB
        have C9 := hide (bStringK w1.heap.size w1.heap.size (P ++ rowsT L).data.toList wr HB.out (by have := HZ.out; omega))
        rw [arr_back] at C9
        have BB := hide hbel
        clear e1 HB hbel
        go_wp2_with fail
        refine C9.out.mono ?_
        rintro e w9 ⟨rfl, _, hb, _⟩
        have B9 := hide (BB.out.trans (hb.mono (by have := Z1.out; omega)))
        clear hb BB
        go_wp2
        go_ret2
        exact ⟨rfl, B9.out⟩
end Go.Proofs.YtbcnkglcfjineakDoor.L13
