/-
  Contract: impl.ReadSay.
-/
import Derived.Test.YtbcnkglcfjineakDoorL13RsM
import Derived.Test.YtbcnkglcfjineakDoorL13RdF
import Derived.Deep.DeepCutAuto
namespace Go.Proofs.YtbcnkglcfjineakDoor.L13
open Go.RowKit L1
set_option linter.unusedVariables false

theorem blk3f {w : World} {g : Nat} {a b c : Value} {t : TypeId} (h : w.heap[g]? = some (.cells #[a, b, c] t (0, 0))) :
    w.cell? ⟨g, 0, none⟩ = some a ∧ w.cell? ⟨g, 1, none⟩ = some b ∧ w.cell? ⟨g, 2, none⟩ = some c ∧ w.frozen? ⟨g, 0, none⟩ = false ∧ w.frozen? ⟨g, 1, none⟩ = false ∧ w.frozen? ⟨g, 2, none⟩ = false := by
  simp [World.cell?, World.frozen?, h]
theorem blk_old {w : World} {g : Nat} {o o2 : Obj} (h : w.heap[g]? = some o) : (w.alloc o2).heap[g]? = some o :=
  (((Below.refl w.heap.size w).alloc (Nat.le_refl _) o2).block g (Array.getElem?_eq_some_iff.1 h).1).trans h
theorem set3 {W : World} {g : Nat} {a b c a' b' c' : Value} {t : TypeId} (h : W.heap[g]? = some (.cells #[a, b, c] t (0, 0))) :
    (((W.setCell ⟨g, 0, none⟩ a').setCell ⟨g, 1, none⟩ b').setCell ⟨g, 2, none⟩ c').heap[g]? = some (.cells #[a', b', c'] t (0, 0)) := by
  have hlt := (Array.getElem?_eq_some_iff.1 h).1
  have he := (Array.getElem?_eq_some_iff.1 h).2
  simp [World.setCell, Array.getElem_modify, he, hlt]
theorem set3_below {W w : World} {g B : Nat} {a' b' c' : Value} (h : Below B w W) (hg : B ≤ g) :
    Below B w (((W.setCell ⟨g, 0, none⟩ a').setCell ⟨g, 1, none⟩ b').setCell ⟨g, 2, none⟩ c') :=
  ((h.setCell (p := ⟨g, 0, none⟩) hg _).setCell (p := ⟨g, 1, none⟩) hg _).setCell (p := ⟨g, 2, none⟩) hg _
set_option maxRecDepth 100000 in
set_option maxHeartbeats 4000000 in
theorem implReadSay_any (s : ByteArray) (w : World) (hs : s.size ≤ 1048576) (hl : Lib13 w) :
    Calls Tryd.prog 12 #[.string s] w (SayEnd s w) := by
  have z1 := cutP_le s
  have z2 := cutP_le (cutP s).2
  have CC1 := hide (fun w => cut_lib s w hs)
  have CC2 := hide (fun w => cut_lib (cutP s).2 w (by omega))
  have CD1 := hide (fun w hl => readDecimal_any (cutP (cutP s).2).1 w (by omega) hl)
  have CD2 := hide (fun w hl => readDecimal_any (cutP (cutP s).2).2 w (by omega) hl)
  have CG := hide (fun x y w b hb => goodSay_any (cutP s).1 x y w (by omega) b hb)
  have HS : Hid (∀ x y o1 o2 ok, IsRd (cutP (cutP s).2).1 x o1 → IsRd (cutP (cutP s).2).2 y o2 → (ok = true ↔ o1 = true ∧ o2 = true ∧ okSay (cutP s).1 x y) → IsSay s (cutP s).1 x y ok) := fun x y o1 o2 ok h1 h2 h3 => isSay_cut h1 h2 h3
  have A0 := hide (L8.blk_new w (syO 27 ByteArray.empty 0 0))
  have B0 := hide ((Below.refl w.heap.size w).alloc (Nat.le_refl _) (syO 27 ByteArray.empty 0 0))
  have L0 := hide (hl.below B0.out)
  obtain ⟨B, hB⟩ : ∃ B, B = (cutP (cutP s).2).1 := ⟨_, rfl⟩
  obtain ⟨D, hD⟩ : ∃ D, D = (cutP (cutP s).2).2 := ⟨_, rfl⟩
  rw [← hB] at CC2 CD1 HS
  rw [← hD] at CC2 CD2 HS
  obtain ⟨R, hR⟩ : ∃ R, R = (cutP s).2 := ⟨_, rfl⟩
  rw [← hR] at CC1 CC2
  obtain ⟨A, hA⟩ : ∃ A, A = (cutP s).1 := ⟨_, rfl⟩
  rw [← hA] at CC1 CG HS
  clear hA hR hB hD z1 z2 hl hs
  go_enter Tryd.func12, Tryd.ntmps12
  go_wp2_with fail
  refine (CC1.out _).mono ?_
  rintro e w1 ⟨f1, rfl, hb⟩
  have A1 := hide ((hb.block w.heap.size (by simp)).trans A0.out)
  have B1 := hide (B0.out.trans (hb.mono B0.out.size))
  have L1 := hide (L0.out.below hb)
  clear hb L0 A0 B0
  go_wp2_with fail
  refine (CC2.out _).mono ?_
  rintro e w2 ⟨f2, rfl, hb⟩
  have A2 := hide ((hb.block w.heap.size (Array.getElem?_eq_some_iff.1 A1.out).1).trans A1.out)
  have B2 := hide (B1.out.trans (hb.mono B1.out.size))
  have L2 := hide (L1.out.below hb)
  clear hb L1 A1 B1
  go_wp2_with fail
  refine (CD1.out _ L2.out).mono ?_
  rintro e w3 ⟨x, o1, rfl, h1, hb⟩
  have A3 := hide ((hb.block w.heap.size (Array.getElem?_eq_some_iff.1 A2.out).1).trans A2.out)
  have B3 := hide (B2.out.trans (hb.mono B2.out.size))
  have L3 := hide (L2.out.below hb)
  clear hb L2 A2 B2
  go_wp2_with fail
  refine (CD2.out _ L3.out).mono ?_
  rintro e w4 ⟨y, o2, rfl, h2, hb⟩
  have A4 := hide ((hb.block w.heap.size (Array.getElem?_eq_some_iff.1 A3.out).1).trans A3.out)
  have B4 := hide (B3.out.trans (hb.mono B3.out.size))
  clear hb L3 A3 B3
  have HX := hide (HS.out x y o1 o2)
  clear HS CC1 CC2 CD1 CD2
  have a4 := A4.out
  obtain ⟨ok, hok⟩ := boolP (okSay A x y)
  have CG' := hide (fun w => CG.out x y w ok hok)
  clear CG
  cases o1 with
  | false =>
    have E := hide (HX.out false h1 h2 (by simp))
    clear HX h1 h2 hok CG' a4
    go_upto_region 7 with fail
    obtain ⟨W5, hW5⟩ : ∃ W5, w4.alloc (syO 27 A x y) = W5 := ⟨_, rfl⟩
    have A5 := hide (show W5.heap[w.heap.size]? = some (syO 27 ByteArray.empty 0 0) by rw [← hW5]; exact blk_old A4.out)
    have B5 := hide (show Below w.heap.size w W5 by rw [← hW5]; exact B4.out.alloc B4.out.size _)
    rw [hW5]
    clear hW5 A4 B4
    obtain ⟨k0, k1, k2, q0, q1, q2⟩ := blk3f A5.out
    go_wp2
    obtain ⟨W9, hW9⟩ : ∃ W9, (((W5.setCell ⟨w.heap.size, 0, none⟩ (.string ByteArray.empty)).setCell ⟨w.heap.size, 1, none⟩ (.int .i64 0)).setCell ⟨w.heap.size, 2, none⟩ (.int .i64 0)) = W9 := ⟨_, rfl⟩
    have A9 : W9.heap[w.heap.size]? = some (syO 27 ByteArray.empty 0 0) := by rw [← hW9]; exact set3 A5.out
    have B9 : Below w.heap.size w W9 := by rw [← hW9]; exact set3_below B5.out (Nat.le_refl _)
    have hW9' : ((((W5.setCell ⟨w.heap.size, 0, none⟩ (.string ByteArray.empty)).setCell ⟨w.heap.size, 1, none⟩ (.int .i64 0)).setCell ⟨w.heap.size, 2, none⟩ (.int .i64 0))) = W9 := hW9
    first | rw [hW9'] | (erw [hW9'])
    clear hW9 hW9'
    obtain ⟨d0, d1, d2, _, _, _⟩ := blk3f A9
    refine bodyPost_ret (v := .tuple #[.agg #[.string ByteArray.empty, .int .i64 0, .int .i64 0], .bool false]) (by simp [results, Tryd.f12, go_sem, d0, d1, d2]) rfl ?_
    exact ⟨_, _, _, _, rfl, E.out.none, fun _ => ⟨rfl, rfl, rfl⟩, B9⟩
  | true =>
    cases o2 with
    | false =>
      have E := hide (HX.out false h1 h2 (by simp))
      clear HX h1 h2 hok CG' a4
      go_upto_region 7 with fail
      obtain ⟨W5, hW5⟩ : ∃ W5, w4.alloc (syO 27 A x y) = W5 := ⟨_, rfl⟩
      have A5 := hide (show W5.heap[w.heap.size]? = some (syO 27 ByteArray.empty 0 0) by rw [← hW5]; exact blk_old A4.out)
      have B5 := hide (show Below w.heap.size w W5 by rw [← hW5]; exact B4.out.alloc B4.out.size _)
      rw [hW5]
      clear hW5 A4 B4
      obtain ⟨k0, k1, k2, q0, q1, q2⟩ := blk3f A5.out
      go_wp2
      obtain ⟨W9, hW9⟩ : ∃ W9, (((W5.setCell ⟨w.heap.size, 0, none⟩ (.string ByteArray.empty)).setCell ⟨w.heap.size, 1, none⟩ (.int .i64 0)).setCell ⟨w.heap.size, 2, none⟩ (.int .i64 0)) = W9 := ⟨_, rfl⟩
      have A9 : W9.heap[w.heap.size]? = some (syO 27 ByteArray.empty 0 0) := by rw [← hW9]; exact set3 A5.out
      have B9 : Below w.heap.size w W9 := by rw [← hW9]; exact set3_below B5.out (Nat.le_refl _)
      have hW9' : ((((W5.setCell ⟨w.heap.size, 0, none⟩ (.string ByteArray.empty)).setCell ⟨w.heap.size, 1, none⟩ (.int .i64 0)).setCell ⟨w.heap.size, 2, none⟩ (.int .i64 0))) = W9 := hW9
      first | rw [hW9'] | (erw [hW9'])
      clear hW9 hW9'
      obtain ⟨d0, d1, d2, _, _, _⟩ := blk3f A9
      refine bodyPost_ret (v := .tuple #[.agg #[.string ByteArray.empty, .int .i64 0, .int .i64 0], .bool false]) (by simp [results, Tryd.f12, go_sem, d0, d1, d2]) rfl ?_
      exact ⟨_, _, _, _, rfl, E.out.none, fun _ => ⟨rfl, rfl, rfl⟩, B9⟩
    | true =>
      have E := hide (HX.out ok h1 h2 (by simp [hok]))
      clear HX h1 h2 hok a4
      have A5 := hide (blk_old (o2 := syO 27 A x y) A4.out)
      have C5 := hide (L8.blk_new w4 (syO 27 A x y))
      have B5 := hide (B4.out.alloc B4.out.size (syO 27 A x y))
      go_wp2_with fail
      refine (CG'.out _).mono ?_
      rintro e w6 ⟨rfl, hb⟩
      have A6 := hide ((hb.block w.heap.size (Array.getElem?_eq_some_iff.1 A5.out).1).trans A5.out)
      have C6 := hide ((hb.block w4.heap.size (Array.getElem?_eq_some_iff.1 C5.out).1).trans C5.out)
      have B6 := hide (B5.out.trans (hb.mono B5.out.size))
      clear hb A5 C5 B5 A4 B4
      obtain ⟨k0, k1, k2, q0, q1, q2⟩ := blk3f A6.out
      obtain ⟨j0, j1, j2, _, _, _⟩ := blk3f C6.out
      cases ok with
      | false =>
        go_wp2
        obtain ⟨W9, hW9⟩ : ∃ W9, (((w6.setCell ⟨w.heap.size, 0, none⟩ (.string ByteArray.empty)).setCell ⟨w.heap.size, 1, none⟩ (.int .i64 0)).setCell ⟨w.heap.size, 2, none⟩ (.int .i64 0)) = W9 := ⟨_, rfl⟩
        have A9 : W9.heap[w.heap.size]? = some (syO 27 ByteArray.empty 0 0) := by rw [← hW9]; exact set3 A6.out
        have B9 : Below w.heap.size w W9 := by rw [← hW9]; exact set3_below B6.out (Nat.le_refl _)
        have hW9' : ((((w6.setCell ⟨w.heap.size, 0, none⟩ (.string ByteArray.empty)).setCell ⟨w.heap.size, 1, none⟩ (.int .i64 0)).setCell ⟨w.heap.size, 2, none⟩ (.int .i64 0))) = W9 := hW9
        first | rw [hW9'] | (erw [hW9'])
        clear hW9 hW9'
        obtain ⟨d0, d1, d2, _, _, _⟩ := blk3f A9
        refine bodyPost_ret (v := .tuple #[.agg #[.string ByteArray.empty, .int .i64 0, .int .i64 0], .bool false]) (by simp [results, Tryd.f12, go_sem, d0, d1, d2]) rfl ?_
        exact ⟨_, _, _, _, rfl, E.out.none, fun _ => ⟨rfl, rfl, rfl⟩, B9⟩
      | true =>
        go_wp2
        obtain ⟨W9, hW9⟩ : ∃ W9, (((w6.setCell ⟨w.heap.size, 0, none⟩ (.string A)).setCell ⟨w.heap.size, 1, none⟩ (.int .i64 x)).setCell ⟨w.heap.size, 2, none⟩ (.int .i64 y)) = W9 := ⟨_, rfl⟩
        have A9 : W9.heap[w.heap.size]? = some (syO 27 A x y) := by rw [← hW9]; exact set3 A6.out
        have B9 : Below w.heap.size w W9 := by rw [← hW9]; exact set3_below B6.out (Nat.le_refl _)
        have hW9' : ((((w6.setCell ⟨w.heap.size, 0, none⟩ (.string A)).setCell ⟨w.heap.size, 1, none⟩ (.int .i64 x)).setCell ⟨w.heap.size, 2, none⟩ (.int .i64 y))) = W9 := hW9
        first | rw [hW9'] | (erw [hW9'])
        clear hW9 hW9'
        obtain ⟨d0, d1, d2, _, _, _⟩ := blk3f A9
        refine bodyPost_ret (v := .tuple #[.agg #[.string A, .int .i64 x, .int .i64 y], .bool true]) (by simp [results, Tryd.f12, go_sem, d0, d1, d2]) rfl ?_
        exact ⟨_, _, _, _, rfl, E.out, fun h => absurd h (by simp), B9⟩
end Go.Proofs.YtbcnkglcfjineakDoor.L13
