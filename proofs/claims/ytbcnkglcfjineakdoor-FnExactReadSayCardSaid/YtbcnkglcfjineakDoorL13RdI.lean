/-
  Contract: spec.l13Int reads a number.
-/
import Derived.Test.YtbcnkglcfjineakDoorL13RdM
import Derived.Test.YtbcnkglcfjineakDoorL13Text
import Derived.Test.YtbcnkglcfjineakDoorL3SpecName
namespace Go.Proofs.YtbcnkglcfjineakDoor.L13
open Go.RowKit L1
set_option linter.unusedVariables false

def isDg (b : Int) : Prop := 48 ≤ b ∧ b ≤ 57
instance (b : Int) : Decidable (isDg b) := by unfold isDg; infer_instance
/-- What is read: the digits' part of a text and its sign. -/
structure RdT (s T : ByteArray) (neg : Bool) : Prop where
  num : ∀ m, -9999999999 ≤ m → m ≤ 9999999999 → s = numT m → T.data.toList = Lib.decDigits m.natAbs ∧ m = (if neg then -(m.natAbs : Int) else (m.natAbs : Int))
theorem bts_of (T : ByteArray) (k : Nat) (h : k < T.size) : (bts T 0).getD k 0 = (((T.data.toList)[k]'(by rw [← Lib.size_eq]; exact h)).toNat : Int) := by
  rw [bts_atR T k h]
  rfl
theorem rdT_pos {s : ByteArray} (h0 : 0 < s.size) (h : ¬ (s[0]'h0).toNat = 45) : RdT s s false := by
  refine ⟨fun m h1 h2 e => ?_⟩
  have e2 : s.data.toList = Lib.itoa m := by rw [e, numT_data]
  unfold Lib.itoa at e2
  split at e2
  · exfalso
    apply h
    have : (s.data.toList)[0]'(by rw [← Lib.size_eq]; exact h0) = 45 := by simp [e2]
    have e3 : (s[0]'h0) = 45 := this
    rw [e3]
    rfl
  · rw [show m.toNat = m.natAbs by omega] at e2
    exact ⟨e2, by simp; omega⟩
theorem rdT_neg {s : ByteArray} (h0 : 0 < s.size) (h : (s[0]'h0).toNat = 45) : RdT s (s.extract 1 s.size) true := by
  refine ⟨fun m h1 h2 e => ?_⟩
  have e2 : s.data.toList = Lib.itoa m := by rw [e, numT_data]
  unfold Lib.itoa at e2
  split at e2
  · refine ⟨?_, by simp; omega⟩
    have : (s.extract 1 s.size).data.toList = s.data.toList.drop 1 := by
      rw [ByteArray.data_extract, Array.toList_extract, Lib.size_eq]
      simp only [List.extract, List.drop_one]
      exact List.take_of_length_le (by rw [List.length_tail]; omega)
    rw [this, e2]
    rfl
  · exfalso
    have h3 := dec_dig m.toNat ((s.data.toList)[0]'(by rw [← Lib.size_eq]; exact h0)) (by rw [← e2]; exact List.getElem_mem _)
    have h4 : ((s.data.toList)[0]'(by rw [← Lib.size_eq]; exact h0)).toNat = 45 := h
    omega
theorem isRd_none {s : ByteArray} (h : ∀ m, -9999999999 ≤ m → m ≤ 9999999999 → s ≠ numT m) : IsRd s 0 false :=
  ⟨fun h => absurd h (by simp), fun m h1 h2 e => absurd e (h m h1 h2)⟩
theorem isRd_empty {s : ByteArray} (h : ¬ 0 < s.size) : IsRd s 0 false :=
  isRd_none fun m h1 h2 e => h (by have := num_ne m; rw [e]; omega)
theorem isRd_len {s T : ByteArray} {neg : Bool} (h : RdT s T neg) (hl : ¬ (1 ≤ T.size ∧ T.size ≤ 10)) : IsRd s 0 false :=
  isRd_none fun m h1 h2 e => by
    have e1 := (h.num m h1 h2 e).1
    have e2 := dec_len m.natAbs (by omega)
    have e3 := dec_ne m.natAbs
    rw [← e1] at e2 e3
    apply hl
    rw [Lib.size_eq]
    exact ⟨List.length_pos_iff.2 e3, e2⟩
theorem isRd_dig {s T : ByteArray} {neg : Bool} (h : RdT s T neg) (k : Nat) (hk : k < T.size) (hd : ¬ isDg ((bts T 0).getD k 0)) : IsRd s 0 false :=
  isRd_none fun m h1 h2 e => by
    have e1 := (h.num m h1 h2 e).1
    rw [bts_of T k hk] at hd
    have := dec_dig m.natAbs ((T.data.toList)[k]'(by rw [← Lib.size_eq]; exact hk)) (by rw [← e1]; exact List.getElem_mem _)
    apply hd
    exact ⟨by omega, by omega⟩
theorem isRd_end {s T : ByteArray} {neg : Bool} (h : RdT s T neg) (n : Nat) (hn : n = valB (T.data.toList.take T.size)) (v : Int) (hv : v = if neg then -(n : Int) else (n : Int)) (b : Bool) (hb : b = true ↔ numT v = s) : IsRd s v b := by
  refine ⟨fun e => (hb.1 e).symm, fun m h1 h2 e => ?_⟩
  obtain ⟨e1, e2⟩ := h.num m h1 h2 e
  have e3 : n = m.natAbs := by
    rw [hn, Lib.size_eq, List.take_length, e1, valB_dec]
  have e4 : v = m := by rw [hv, e2, e3]
  exact ⟨hb.2 (by rw [e4, e]), e4⟩
theorem val_next (T : ByteArray) (k : Nat) (h : k < T.size) (b : Int) (hb : (bts T 0).getD k 0 = b) : valB (T.data.toList.take (k + 1)) = 10 * valB (T.data.toList.take k) + (b - 48).toNat := by
  have hk : k < T.data.toList.length := by rw [← Lib.size_eq]; exact h
  rw [List.take_succ_eq_append_getElem hk, valB_one]
  rw [bts_of T k h] at hb
  omega
theorem val_lt (T : ByteArray) (k : Nat) (h : k ≤ T.size) (hd : ∀ j, j < k → isDg ((bts T 0).getD j 0)) : valB (T.data.toList.take k) < 10 ^ k := by
  refine valB_lt _ k (by rw [← Lib.size_eq]; exact h) (fun j h1 h2 => ?_)
  have := hd j h1
  rw [bts_of T j (by omega)] at this
  have := this.2
  omega
theorem pow_lt9 {k n : Nat} (hk : k ≤ 9) (h : n < 10 ^ k) : n < 1000000000 := Nat.lt_of_lt_of_le h (Nat.pow_le_pow_right (by decide) hk)
theorem pow_lt10 {k n : Nat} (hk : k ≤ 10) (h : n < 10 ^ k) : n < 10000000000 := Nat.lt_of_lt_of_le h (Nat.pow_le_pow_right (by decide) hk)
theorem wrap8_dig {b : Int} {d : Nat} (h : isDg b) (hd : (d : Int) = b - 48) : IntKind.u8.wrap (b - 48) = (d : Int) := by
  have := h.1
  have := h.2
  simp only [IntKind.wrap, IntKind.bits, IntKind.signed]
  simp
  omega
theorem wrap_inN {x : Int} (h0 : -20000000000 ≤ x) (h1 : x ≤ 20000000000) : IntKind.i64.wrap x = x := by
  simp only [IntKind.wrap, IntKind.bits, IntKind.signed]
  simp
  omega
theorem str_eqb (a b : ByteArray) : (a.toList == b.toList) = true ↔ a = b := by
  rw [beq_iff_eq]
  constructor
  · intro h
    apply ByteArray.ext
    apply Array.toList_inj.1
    rw [← ByteArray.toList_eq, ← ByteArray.toList_eq, h]
  · intro h; rw [h]
/-- What a reader of a number ends with. -/
inductive IntEnd (s : ByteArray) (w : World) (e : Ending) (w' : World) : Prop
  | mk (v : Int) (ok : Bool) (he : e = .returned (.tuple #[.int .i64 v, .bool ok])) (hr : IsRd s v ok) (hb : Below w.heap.size w w')
set_option maxRecDepth 100000 in
set_option maxHeartbeats 4000000 in
theorem l13Int_any (s : ByteArray) (w : World) (hs : s.size ≤ 1048576) :
    Calls Tryd.prog 41 #[.string s] w (IntEnd s w) := by
  by_cases h0 : 0 < s.size
  · have h0I : (0 : Int) < (s.size : Int) := by omega
    have hb := L3.bts_at s 0 h0
    by_cases h45 : (s[0]'h0).toNat = 45
    · have HR := hide (rdT_neg h0 h45)
      obtain ⟨b, hbe⟩ : ∃ b, b = (bts s 0).getD 0 0 := ⟨_, rfl⟩
      rw [← hbe] at hb
      have hb' := hb.symm
      have hbb : (b == (45 : Int)) = true := by rw [beq_iff_eq]; rw [hbe, bts_atR s 0 h0]; omega
      clear hb hbe h45
      have h1I : (1 : Int) ≤ (s.size : Int) := by omega
      go_enter Tryd.func41, Tryd.ntmps41
      go_wp2_with fail
      have hTs : s.size - 1 = (s.extract 1 s.size).size := by rw [ByteArray.size_extract]; omega
      rw [hTs]
      obtain ⟨T, hT⟩ : ∃ T, T = s.extract 1 s.size := ⟨_, rfl⟩
      rw [← hT] at HR hTs ⊢
      clear hT
      by_cases hl : 1 ≤ T.size ∧ T.size ≤ 10
      · have hlI : 1 ≤ (T.size : Int) ∧ (T.size : Int) ≤ 10 := by omega
        have C := hide (fun w => L3.l1In_yes (T.size : Int) 1 10 w hlI.1 hlI.2)
        clear hlI
        refine (C.out _).mono ?_
        rintro e w1 ⟨rfl, rfl⟩
        go_wp2
        go_loop [6, 7] (fun nn i => ∃ (k n : Nat), k ≤ T.size ∧ i = .int .i64 k ∧ nn = .int .i64 n ∧ Hid (n = valB (T.data.toList.take k)) ∧ Hid (∀ j, j < k → isDg ((bts T 0).getD j 0))) (fun _ i => T.size - (intOf i).toNat)
        case atStart => exact ⟨0, 0, Nat.zero_le _, rfl, rfl, hide (by simp [valB]), fun j hj => absurd hj (Nat.not_lt_zero _)⟩
        case round =>
          obtain ⟨k, n, hk, rfl, rfl, HV, HD⟩ := hrel
          by_cases hlt : k < T.size
          · have hltI : (k : Int) < (T.size : Int) := by omega
            have hb := L3.bts_at T k hlt
            obtain ⟨b, hbe⟩ : ∃ b, b = (bts T 0).getD k 0 := ⟨_, rfl⟩
            rw [← hbe] at hb
            have hb' := hb.symm
            have HBE := hide hbe.symm
            clear hbe hb
            by_cases hok : isDg b
            · have R : Hid (∀ j, j < k + 1 → isDg ((bts T 0).getD j 0)) := fun j hj => by
                by_cases e : j = k
                · subst e; rw [HBE.out]; exact hok
                · exact HD.out j (by omega)
              have hn9 : n < 1000000000 := by rw [HV.out]; exact pow_lt9 (by omega) (val_lt T k hk HD.out)
              obtain ⟨d, hd⟩ : ∃ d : Nat, (d : Int) = b - 48 := ⟨(b - 48).toNat, by have := hok.1; omega⟩
              have hd9 : d ≤ 9 := by have := hok.2; omega
              have VN : Hid (10 * n + d = valB (T.data.toList.take (k + 1))) := by
                show _ = _
                rw [val_next T k hlt b HBE.out, HV.out]
                omega
              have hw8 := wrap8_dig hok hd
              have hwd : IntKind.i64.wrap (d : Int) = (d : Int) := wrap_inN (by omega) (by omega)
              have hwm : IntKind.i64.wrap (10 * (n : Int)) = ((10 * n : Nat) : Int) := by rw [wrap_inN (by omega) (by omega)]; omega
              have hwa : IntKind.i64.wrap (((10 * n : Nat) : Int) + (d : Int)) = ((10 * n + d : Nat) : Int) := by rw [wrap_inN (by omega) (by omega)]; omega
              obtain ⟨ha1, ha2⟩ := hok
              go_wp2
              go_round
              case rel => exact ⟨k + 1, 10 * n + d, by omega, by go_num, by go_num, VN, R⟩
              case measure => simp [intOf]; omega
            · have E := hide (isRd_dig HR.out k hlt (by rw [HBE.out]; exact hok))
              by_cases ha1 : b < 48
              · clear hok
                go_wp2
                go_ret2
                exact ⟨_, _, rfl, E.out, Below.refl _ _⟩
              · have ha2 : b > 57 := by unfold isDg at hok; omega
                clear hok
                go_wp2
                go_ret2
                exact ⟨_, _, rfl, E.out, Below.refl _ _⟩
          · obtain rfl : k = T.size := by omega
            have hltI : ¬ (T.size : Int) < (T.size : Int) := by omega
            have hn10 : n < 10000000000 := by rw [HV.out]; exact pow_lt10 (by omega) (val_lt T _ (Nat.le_refl _) HD.out)
            have hwn : IntKind.i64.wrap (-(n : Int)) = (-(n : Int)) := wrap_inN (by omega) (by omega)
            have C2 := hide (fun w => l1Text_any (-(n : Int)) w (by omega) (by omega))
            have E := hide (isRd_end HR.out n HV.out (-(n : Int)) (by simp) ((numT (-(n : Int))).toList == s.toList) (str_eqb _ _))
            obtain ⟨X, hX⟩ : ∃ X, X = numT (-(n : Int)) := ⟨_, rfl⟩
            rw [← hX] at C2 E
            clear hX HV HD
            go_wp2_with fail
            refine (C2.out _).mono ?_
            rintro e w1 ⟨rfl, hb⟩
            go_wp2
            go_ret2
            exact ⟨_, _, rfl, E.out, hb⟩
      · have E := hide (isRd_len HR.out hl)
        have C := hide (fun w => L3.l1In_no (T.size : Int) 1 10 w (by omega))
        clear hl
        refine (C.out _).mono ?_
        rintro e w1 ⟨rfl, rfl⟩
        go_wp2
        go_ret2
        exact ⟨_, _, rfl, E.out, Below.refl _ _⟩
    · have HR := hide (rdT_pos h0 h45)
      obtain ⟨b, hbe⟩ : ∃ b, b = (bts s 0).getD 0 0 := ⟨_, rfl⟩
      rw [← hbe] at hb
      have hb' := hb.symm
      have hbb : (b == (45 : Int)) = false := by rw [beq_eq_false_iff_ne]; rw [hbe, bts_atR s 0 h0]; omega
      clear hb hbe h45
      go_enter Tryd.func41, Tryd.ntmps41
      go_wp2_with fail
      by_cases hl : 1 ≤ s.size ∧ s.size ≤ 10
      · have hlI : 1 ≤ (s.size : Int) ∧ (s.size : Int) ≤ 10 := by omega
        have C := hide (fun w => L3.l1In_yes (s.size : Int) 1 10 w hlI.1 hlI.2)
        clear hlI
        refine (C.out _).mono ?_
        rintro e w1 ⟨rfl, rfl⟩
        go_wp2
        go_loop [6, 7] (fun nn i => ∃ (k n : Nat), k ≤ s.size ∧ i = .int .i64 k ∧ nn = .int .i64 n ∧ Hid (n = valB (s.data.toList.take k)) ∧ Hid (∀ j, j < k → isDg ((bts s 0).getD j 0))) (fun _ i => s.size - (intOf i).toNat)
        case atStart => exact ⟨0, 0, Nat.zero_le _, rfl, rfl, hide (by simp [valB]), fun j hj => absurd hj (Nat.not_lt_zero _)⟩
        case round =>
          obtain ⟨k, n, hk, rfl, rfl, HV, HD⟩ := hrel
          by_cases hlt : k < s.size
          · have hltI : (k : Int) < (s.size : Int) := by omega
            have hb := L3.bts_at s k hlt
            obtain ⟨b, hbe⟩ : ∃ b, b = (bts s 0).getD k 0 := ⟨_, rfl⟩
            rw [← hbe] at hb
            have hb' := hb.symm
            have HBE := hide hbe.symm
            clear hbe hb
            by_cases hok : isDg b
            · have R : Hid (∀ j, j < k + 1 → isDg ((bts s 0).getD j 0)) := fun j hj => by
                by_cases e : j = k
                · subst e; rw [HBE.out]; exact hok
                · exact HD.out j (by omega)
              have hn9 : n < 1000000000 := by rw [HV.out]; exact pow_lt9 (by omega) (val_lt s k hk HD.out)
              obtain ⟨d, hd⟩ : ∃ d : Nat, (d : Int) = b - 48 := ⟨(b - 48).toNat, by have := hok.1; omega⟩
              have hd9 : d ≤ 9 := by have := hok.2; omega
              have VN : Hid (10 * n + d = valB (s.data.toList.take (k + 1))) := by
                show _ = _
                rw [val_next s k hlt b HBE.out, HV.out]
                omega
              have hw8 := wrap8_dig hok hd
              have hwd : IntKind.i64.wrap (d : Int) = (d : Int) := wrap_inN (by omega) (by omega)
              have hwm : IntKind.i64.wrap (10 * (n : Int)) = ((10 * n : Nat) : Int) := by rw [wrap_inN (by omega) (by omega)]; omega
              have hwa : IntKind.i64.wrap (((10 * n : Nat) : Int) + (d : Int)) = ((10 * n + d : Nat) : Int) := by rw [wrap_inN (by omega) (by omega)]; omega
              obtain ⟨ha1, ha2⟩ := hok
              go_wp2
              go_round
              case rel => exact ⟨k + 1, 10 * n + d, by omega, by go_num, by go_num, VN, R⟩
              case measure => simp [intOf]; omega
            · have E := hide (isRd_dig HR.out k hlt (by rw [HBE.out]; exact hok))
              by_cases ha1 : b < 48
              · clear hok
                go_wp2
                go_ret2
                exact ⟨_, _, rfl, E.out, Below.refl _ _⟩
              · have ha2 : b > 57 := by unfold isDg at hok; omega
                clear hok
                go_wp2
                go_ret2
                exact ⟨_, _, rfl, E.out, Below.refl _ _⟩
          · obtain rfl : k = s.size := by omega
            have hltI : ¬ (s.size : Int) < (s.size : Int) := by omega
            have hn10 : n < 10000000000 := by rw [HV.out]; exact pow_lt10 (by omega) (val_lt s _ (Nat.le_refl _) HD.out)
            have hwn : IntKind.i64.wrap (n : Int) = (n : Int) := wrap_inN (by omega) (by omega)
            have C2 := hide (fun w => l1Text_any (n : Int) w (by omega) (by omega))
            have E := hide (isRd_end HR.out n HV.out (n : Int) (by simp) ((numT (n : Int)).toList == s.toList) (str_eqb _ _))
            obtain ⟨X, hX⟩ : ∃ X, X = numT (n : Int) := ⟨_, rfl⟩
            rw [← hX] at C2 E
            clear hX HV HD
            go_wp2_with fail
            refine (C2.out _).mono ?_
            rintro e w1 ⟨rfl, hb⟩
            go_wp2
            go_ret2
            exact ⟨_, _, rfl, E.out, hb⟩
      · have E := hide (isRd_len HR.out hl)
        have C := hide (fun w => L3.l1In_no (s.size : Int) 1 10 w (by omega))
        clear hl
        refine (C.out _).mono ?_
        rintro e w1 ⟨rfl, rfl⟩
        go_wp2
        go_ret2
        exact ⟨_, _, rfl, E.out, Below.refl _ _⟩
  · have hz : s.size = 0 := by omega
    have HE := hide (isRd_empty h0)
    have C := hide (fun w => L3.l1In_no 0 1 10 w (by omega))
    go_enter Tryd.func41, Tryd.ntmps41
    go_wp2_with fail
    refine (C.out _).mono ?_
    rintro e w1 ⟨rfl, rfl⟩
    go_wp2
    go_ret2
    exact ⟨_, _, rfl, HE.out, Below.refl _ _⟩
end Go.Proofs.YtbcnkglcfjineakDoor.L13
