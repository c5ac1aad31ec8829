/-
  Contracts: cmp.Less and slices.BinarySearch of texts that rise.
-/
import Derived.Test.YtfmfnlpajoikmaoL15HGM
import Derived.Deep.DeepCutAuto
namespace Go.Proofs.Ytfmfnlpajoikmao.L15H
open Go.RowKit L1 Own Str
set_option linter.unusedVariables false

theorem wrapH (z : Int) (h1 : -9223372036854775808 ≤ z) (h2 : z ≤ 9223372036854775807) : IntKind.i64.wrap z = z := by
  simp only [IntKind.wrap, IntKind.bits, IntKind.signed]
  simp
  omega
theorem ahead_trans {a b c : ByteArray} (h1 : L3.Ahead a b) (h2 : L3.Ahead b c) : L3.Ahead a c := L3.bl_trans _ _ _ h1 h2
/-- Where a text stands, or would stand, among texts that rise. -/
structure IsAt (l : List ByteArray) (n : Nat) (o : ByteArray) (i : Nat) : Prop where
  le : i ≤ n
  lo : ∀ j, j < i → L3.Ahead (l.getD j e0) o
  hi : ∀ j, i ≤ j → j < n → ¬ L3.Ahead (l.getD j e0) o
def Rise (l : List ByteArray) (n : Nat) : Prop := ∀ i j, i < j → j < n → L3.Ahead (l.getD i e0) (l.getD j e0)
theorem at_uniq {l : List ByteArray} {n i k : Nat} {o : ByteArray} (h1 : IsAt l n o i) (h2 : IsAt l n o k) : i = k := by
  rcases Nat.lt_trichotomy i k with h | h | h
  · exact absurd (h2.lo i h) (h1.hi i (Nat.le_refl _) (Nat.lt_of_lt_of_le h h2.le))
  · exact h
  · exact absurd (h1.lo k h) (h2.hi k (Nat.le_refl _) (Nat.lt_of_lt_of_le h h1.le))
theorem at_ex {l : List ByteArray} (o : ByteArray) : ∀ n, Rise l n → ∃ i, IsAt l n o i
  | 0, _ => ⟨0, Nat.le_refl _, fun j hj => absurd hj (Nat.not_lt_zero _), fun j _ hj => absurd hj (Nat.not_lt_zero _)⟩
  | n + 1, hr => by
    obtain ⟨i, h1, h2, h3⟩ := at_ex o n (fun a b hab hb => hr a b hab (by omega))
    by_cases hi : i < n
    · refine ⟨i, by omega, h2, fun j hj hjn => ?_⟩
      by_cases e : j = n
      · subst e
        intro q
        exact h3 i (Nat.le_refl _) hi (ahead_trans (hr i j hi (by omega)) q)
      · exact h3 j hj (by omega)
    · obtain rfl : i = n := by omega
      by_cases ha : L3.Ahead (l.getD i e0) o
      · exact ⟨i + 1, Nat.le_refl _, fun j hj => by
          by_cases e : j = i
          · subst e; exact ha
          · exact h2 j (by omega), fun j hj hjn => absurd hjn (by omega)⟩
      · exact ⟨i, by omega, h2, fun j hj hjn => by
          obtain rfl : j = i := by omega
          exact ha⟩
set_option maxRecDepth 100000 in
set_option maxHeartbeats 400000 in
theorem isNaNC_any (s : ByteArray) (w : World) : Calls Try.prog 54 #[.string s] w fun e w' => e = .returned (.bool false) ∧ w = w' := by
  go_enter Try.func54, Try.ntmps54
  go_wp2
  go_ret
  exact ⟨by simp, rfl⟩
set_option maxRecDepth 100000 in
set_option maxHeartbeats 400000 in
theorem isNaNS_any (s : ByteArray) (w : World) : Calls Try.prog 53 #[.string s] w fun e w' => e = .returned (.bool false) ∧ w = w' := by
  go_enter Try.func53, Try.ntmps53
  go_wp2
  go_ret
  exact ⟨by simp, rfl⟩
set_option maxRecDepth 100000 in
set_option maxHeartbeats 400000 in
theorem lessS_any (x y : ByteArray) (w : World) : Calls Try.prog 52 #[.string x, .string y] w fun e w' => e = .returned (.bool (Op.bytesLess x.toList y.toList)) ∧ w = w' := by
  have C := hide (fun wx => isNaNC_any x wx)
  go_enter Try.func52, Try.ntmps52
  go_wp2_with fail
  refine (C.out _).mono ?_
  rintro e w1 ⟨rfl, rfl⟩
  go_wp2
  go_ret
  exact ⟨rfl, rfl⟩
set_option maxRecDepth 100000 in
set_option maxHeartbeats 4000000 in
theorem searchS_any (a : Option Addr) (l : List ByteArray) (n cap : Nat) (o : ByteArray) (w : World) (hn : n ≤ l.length) (hn2 : n ≤ 1048576) (hs : ∀ i, i < n → ∃ b off, a = some ⟨b, off, none⟩ ∧ w.cell? ⟨b, off + i, none⟩ = some (.string (l.getD i e0))) (hr : Rise l n) (p : Nat) (hp : IsAt l n o p) (ok : Bool) (hok : ok = true ↔ p < n ∧ l.getD p e0 = o) :
    Calls Try.prog 50 #[.slice a n cap, .string o] w fun e w' => e = .returned (.tuple #[.int .i64 (p : Int), .bool ok]) ∧ w = w' := by
  have HPP := hide hp
  have HOK := hide hok
  clear hp hok
  have HS := hide hs
  have HR := hide hr
  clear hs hr
  go_enter Try.func50, Try.ntmps50
  go_wp2
  go_loop [7, 8] (fun iv jv => ∃ i j : Nat, iv = .int .i64 i ∧ jv = .int .i64 j ∧ i ≤ j ∧ j ≤ n ∧ Hid ((∀ t, t < i → L3.Ahead (l.getD t e0) o) ∧ ∀ t, j ≤ t → t < n → ¬ L3.Ahead (l.getD t e0) o)) (fun iv jv => (intOf jv).toNat - (intOf iv).toNat)
  case atStart => exact ⟨0, n, rfl, rfl, Nat.zero_le _, Nat.le_refl _, ⟨fun t ht => absurd ht (Nat.not_lt_zero _), fun t h1 h2 => absurd h2 (by omega)⟩⟩
  case round =>
    obtain ⟨i, j, rfl, rfl, hij, hjn, HP⟩ := hrel
    by_cases hlt : i < j
    · have hltI : (i : Int) < (j : Int) := by omega
      obtain ⟨h, hh⟩ : ∃ h, h = (i + j) / 2 := ⟨_, rfl⟩
      have hih : i ≤ h ∧ h < j := by omega
      obtain ⟨b, off, rfl, hc⟩ := HS.out h (by omega)
      have hhe : ((i : Int) + (j : Int)) / 2 = (h : Int) := by omega
      have hhI : ((i : Int) + (j : Int)) / 2 < (n : Int) := by omega
      have hh0 : (0 : Int) ≤ ((i : Int) + (j : Int)) / 2 := by omega
      have hht : (((i : Int) + (j : Int)) / 2).toNat = h := by omega
      have hw1 : IntKind.i64.wrap ((i : Int) + (j : Int)) = (i : Int) + (j : Int) := wrapH _ (by omega) (by omega)
      have hh1 : IntKind.i64.wrap (((i : Int) + (j : Int)) / 2 + 1) = ((h + 1 : Nat) : Int) := by rw [wrapH _ (by omega) (by omega)]; omega
      have HHE := hide hhe
      obtain ⟨x, hx⟩ : ∃ x, x = l.getD h e0 := ⟨_, rfl⟩
      rw [← hx] at hc
      have HX := hide hx
      have C := hide (fun wx => lessS_any x o wx)
      clear hh hhe hx
      by_cases hah : L3.Ahead x o
      · have hlb : Op.bytesLess x.toList o.toList = true := hah
        rw [hlb] at C
        go_wp2_with fail
        refine (C.out _).mono ?_
        rintro e w1 ⟨rfl, rfl⟩
        go_wp2
        go_round
        case rel => exact ⟨h + 1, j, by rw [← hh1]; first | rfl | (congr 1; omega), rfl, by omega, hjn, ⟨fun t ht => by
          by_cases e : t = h
          · subst e; rw [← HX.out]; exact hah
          · have h1 := HR.out t h (by omega) (by omega)
            rw [← HX.out] at h1
            exact ahead_trans h1 hah, HP.out.2⟩⟩
        case measure => simp [intOf]; omega
      · have hlb : Op.bytesLess x.toList o.toList = false := by
          cases e : Op.bytesLess x.toList o.toList with
          | false => rfl
          | true => exact absurd e hah
        rw [hlb] at C
        go_wp2_with fail
        refine (C.out _).mono ?_
        rintro e w1 ⟨rfl, rfl⟩
        go_wp2
        go_round
        case rel => exact ⟨i, h, rfl, by rw [HHE.out], hih.1, by omega, ⟨HP.out.1, fun t h1 h2 => by
          by_cases e : t = h
          · subst e; rw [← HX.out]; exact hah
          · intro q
            have h3 := HR.out h t (by omega) h2
            rw [← HX.out] at h3
            exact hah (ahead_trans h3 q)⟩⟩
        case measure => simp [intOf]; omega
    · obtain rfl : i = j := by omega
      have hltI : ¬ (i : Int) < (i : Int) := by omega
      have hip : i = p := at_uniq ⟨hjn, HP.out.1, HP.out.2⟩ HPP.out
      subst hip
      by_cases hin : i < n
      · have hinI : (i : Int) < (n : Int) := by omega
        have hi0 : (0 : Int) ≤ (i : Int) := by omega
        obtain ⟨b, off, rfl, hc⟩ := HS.out i hin
        obtain ⟨x, hx⟩ : ∃ x, x = l.getD i e0 := ⟨_, rfl⟩
        rw [← hx] at hc
        have HX := hide hx
        have C := hide (fun wx => isNaNS_any x wx)
        clear hx
        by_cases hxo : x = o
        · subst hxo
          have E : Hid (ok = true) := hide (HOK.out.2 ⟨hin, HX.out.symm⟩)
          go_wp2
          go_ret2
          exact ⟨by rw [E.out]; rfl, rfl⟩
        · have hbe : (x.toList == o.toList) = false := by
            cases e : (x.toList == o.toList) with
            | false => rfl
            | true => exact absurd (ptr_eq.1 (beq_iff_eq.1 e)) hxo
          have E : Hid (ok = false) := hide (bool_noG HOK.out (fun q => hxo (HX.out.trans q.2)))
          have hbe2 : ¬ x.toList = o.toList := fun e => hxo (ptr_eq.1 e)
          go_wp2_with fail
          refine (C.out _).mono ?_
          rintro e w1 ⟨rfl, rfl⟩
          go_wp2
          go_ret2
          exact ⟨by rw [E.out]; rfl, rfl⟩
      · have hinI : ¬ (i : Int) < (n : Int) := by omega
        have E : Hid (ok = false) := hide (bool_noG HOK.out (fun q => hin q.1))
        go_wp2
        go_ret2
        exact ⟨by rw [E.out]; rfl, rfl⟩
end Go.Proofs.Ytfmfnlpajoikmao.L15H
