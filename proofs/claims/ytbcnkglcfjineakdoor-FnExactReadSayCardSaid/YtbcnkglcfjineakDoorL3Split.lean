/-
  Contract: spec.l3Split: the parts of a text between the places of one byte.
-/
import Derived.Test.YtbcnkglcfjineakDoorL3Strs
import Derived.Test.YtbcnkglcfjineakDoorL3Parts
namespace Go.Proofs.YtbcnkglcfjineakDoor.L3
open Go.RowKit L1
set_option linter.unusedVariables false

theorem at_some (s : ByteArray) (k : Nat) (h : k < s.size) : s.data.toList[k]? = some (s[k]'h) := by
  have h2 : k < s.data.toList.length := by simpa using h
  rw [List.getElem?_eq_getElem h2]; rfl
theorem ext_at (s : ByteArray) (f j : Nat) : (s.extract f s.size).data.toList[j]? = s.data.toList[f + j]? := by
  have e2 : (s.extract f s.size).data.toList = s.data.toList.drop f := by
    rw [Lib.extract_eq]
    simp only []
    rw [List.take_of_length_le]
    rw [List.length_drop, ← Lib.size_eq]; omega
  rw [e2, List.getElem?_drop]
theorem ext_ext (s : ByteArray) (f k : Nat) (hf : f ≤ s.size) : (s.extract f s.size).extract k (s.extract f s.size).size = s.extract (f + k) s.size := by
  rw [ByteArray.extract_extract, ByteArray.size_extract]
  congr 1
  omega
theorem ext_ext0 (s : ByteArray) (f k : Nat) (hf : f + k ≤ s.size) : (s.extract f s.size).extract 0 k = s.extract f (f + k) := by
  rw [ByteArray.extract_extract]
  congr 1
  omega
/-- One part is done. -/
theorem parts_more (c : UInt8) (s : ByteArray) (f k : Nat) (o : List ByteArray) (h : o ++ parts c (s.extract f s.size) = parts c s) (hfk : f ≤ k) (hk : k < s.size) (hno : ∀ j, f ≤ j → j < k → s.data.toList[j]? ≠ some c) (hc : s[k]'hk = c) :
    (o ++ [s.extract f k]) ++ parts c (s.extract (k + 1) s.size) = parts c s := by
  rw [← h, parts_cut c (s.extract f s.size) (k - f) (fun j hj => by rw [ext_at]; exact hno _ (by omega) (by omega)) (by rw [ext_at, show f + (k - f) = k by omega, at_some s k hk, hc])]
  rw [ext_ext _ _ _ (by omega), ext_ext0 _ _ _ (by omega), show f + (k - f) = k by omega, show f + (k - f + 1) = k + 1 by omega, List.append_assoc]
  rfl
/-- The last part. -/
theorem parts_last (c : UInt8) (s : ByteArray) (f : Nat) (o : List ByteArray) (h : o ++ parts c (s.extract f s.size) = parts c s) (hf : f ≤ s.size) (hno : ∀ j, f ≤ j → j < s.size → s.data.toList[j]? ≠ some c) :
    o ++ [s.extract f s.size] = parts c s := by
  rw [← h, parts_none c (s.extract f s.size)]
  intro j
  rw [ext_at]
  by_cases hj : f + j < s.size
  · exact hno _ (by omega) hj
  · rw [List.getElem?_eq_none (by rw [← Lib.size_eq]; omega)]; simp
set_option maxRecDepth 100000 in
set_option maxHeartbeats 4000000 in
theorem specSplit_big (s : ByteArray) (c : UInt8) (hs : s.size ≤ 1048576) (ci : Int) (hci : ci = (c.toNat : Int)) (w : World) :
    Calls Tryd.prog 40 #[.string s, .int .u8 ci] w fun e w' => ∃ v, e = .returned v ∧ OwX w' w.heap.size v (parts c s) ∧ Below w.heap.size w w' := by
  obtain ⟨i1, hi1, hy0, hy1, hy2⟩ := info_parts info_strX
  subst hci
  have HST : Hid (([] : List ByteArray) ++ parts c (s.extract 0 s.size) = parts c s) := hide (by rw [ByteArray.extract_zero_size]; rfl)
  have hsI : (s.size : Int) ≤ 1048576 := by omega
  go_enter Tryd.func40, Tryd.ntmps40
  go_wp2
  go_loopw [5, 6, 7] (fun ot fr i wr => ∃ (k f : Nat) (o : List ByteArray), k ≤ s.size ∧ f ≤ k ∧ i = .int .i64 k ∧ fr = .int .i64 f ∧ o.length ≤ f ∧ Hid (OwX wr w.heap.size ot o) ∧ Hid (o ++ parts c (s.extract f s.size) = parts c s) ∧ Hid (∀ j, f ≤ j → j < k → s.data.toList[j]? ≠ some c) ∧ Below w.heap.size w wr) (fun _ _ i _ => s.size - (intOf i).toNat)
  case atStart => exact ⟨0, 0, [], Nat.zero_le _, Nat.le_refl _, rfl, rfl, Nat.le_refl _, World.ownsRow_nil _ _ _ _, HST, hide (fun j _ h => by omega), Below.refl _ _⟩
  case round =>
    obtain ⟨k, f, o, hk, hfk, rfl, rfl, hol, HO, HP, HNO, hbel⟩ := hrel
    obtain ⟨oa, ocap, rfl⟩ := own_shapeX HO.out
    by_cases hlt : k < s.size
    · have hltI : (k : Int) < (s.size : Int) := by omega
      have hb := at_some s k hlt
      have hfI : (f : Int) ≤ (k : Int) := by omega
      have hkI : (k : Int) ≤ (s.size : Int) := by omega
      by_cases hc : s[k]'hlt = c
      · have HM := hide (parts_more c s f k o HP.out hfk hlt HNO.out hc)
        have hsz := hbel.size
        have B0 := hide hbel
        clear hbel hb
        go_wp2_with (first
          | (at_builtin; refine wpList_append_own _ rfl _ _ 75 rfl w.heap.size 9 i1 (.string ByteArray.empty) 1 16 Tryd.underlying75 hi1 hy0 hy1 hy2 rfl (by decide) _ _ _ rfl (HO.out.alloc _) ⟨wr.heap.size, 0, none⟩ 1 1 [.string (s.extract f k)] rfl rfl (cell_one_newX _ _ rfl _ _) (by intro u hu; simp at hu; subst hu; rfl) (by unfold maxLen; omega) (by omega) (by simp; omega) ?_)
          | go_in)
        intro v6 w6 hown6 hgrow6 _
        have hb6 := B0.out.trans (((Below.refl _ _).alloc hsz _) |>.grown hgrow6 (by simp; omega) (fun g hg => (HO.out.lt g hg).1))
        have hown8 : OwX w6 w.heap.size v6 (o ++ [s.extract f k]) := by
          show w6.ownsRow _ _ _ _ _ _
          rw [List.length_append, mapX, List.map_append]
          exact hown6
        have hown7 := hide hown8
        clear hown6 hgrow6 hown8
        go_wp2
        go_roundw
        case rel => exact ⟨k + 1, k + 1, o ++ [s.extract f k], by omega, Nat.le_refl _, by go_num, by go_num, by rw [List.length_append]; simp; omega, hown7, HM, hide (fun j h1 h2 => by omega), hb6⟩
        case measure => simp [intOf]; omega
      · have hcI : (((s[k]'hlt).toNat : Int) == (c.toNat : Int)) = false := by simpa using fun e => hc (UInt8.toNat_inj.1 (by omega))
        go_wp2
        go_roundw
        case rel => exact ⟨k + 1, f, o, by omega, by omega, by go_num, rfl, hol, HO, HP, hide (fun j h1 h2 => by
          by_cases hj : j = k
          · subst hj; rw [hb]; intro e; exact hc (by simpa using e)
          · exact HNO.out j h1 (by omega)), hbel⟩
        case measure => simp [intOf]; omega
    · obtain rfl : k = s.size := by omega
      have hltI : ¬ (s.size : Int) < (s.size : Int) := by omega
      have hfI : (f : Int) ≤ (s.size : Int) := by omega
      have HL := hide (parts_last c s f o HP.out hfk HNO.out)
      have hsz := hbel.size
      have B0 := hide hbel
      clear hbel
      go_wp2_with (first
        | (at_builtin; refine wpList_append_own _ rfl _ _ 75 rfl w.heap.size 9 i1 (.string ByteArray.empty) 1 16 Tryd.underlying75 hi1 hy0 hy1 hy2 rfl (by decide) _ _ _ rfl (HO.out.alloc _) ⟨wr.heap.size, 0, none⟩ 1 1 [.string (s.extract f s.size)] rfl rfl (cell_one_newX _ _ rfl _ _) (by intro u hu; simp at hu; subst hu; rfl) (by unfold maxLen; omega) (by omega) (by simp; omega) ?_)
        | go_in)
      intro v6 w6 hown6 hgrow6 _
      have hb6 := B0.out.trans (((Below.refl _ _).alloc hsz _) |>.grown hgrow6 (by simp; omega) (fun g hg => (HO.out.lt g hg).1))
      have hown8 : OwX w6 w.heap.size v6 (o ++ [s.extract f s.size]) := by
        show w6.ownsRow _ _ _ _ _ _
        rw [List.length_append, mapX, List.map_append]
        exact hown6
      rw [HL.out] at hown8
      have hown7 := hide hown8
      clear hown6 hgrow6 hown8
      go_wp2
      go_ret
      exact ⟨_, rfl, hown7.out, hb6⟩
theorem specSplit_any (s : ByteArray) (c : UInt8) (hs : s.size ≤ 600) (ci : Int) (hci : ci = (c.toNat : Int)) (w : World) :
    Calls Tryd.prog 40 #[.string s, .int .u8 ci] w fun e w' => ∃ v, e = .returned v ∧ OwX w' w.heap.size v (parts c s) ∧ Below w.heap.size w w' :=
  specSplit_big s c (by omega) ci hci w
end Go.Proofs.YtbcnkglcfjineakDoor.L3
