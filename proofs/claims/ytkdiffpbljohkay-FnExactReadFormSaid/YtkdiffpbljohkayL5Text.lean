/-
  Contracts: impl.textOf, spec.l5Text: the text of a shape.
-/
import Derived.Test.YtkdiffpbljohkayL5Tree
import Derived.Test.YtkdiffpbljohkayL5Shape
import Derived.Deep.RegionHeld3
import Derived.Laws.Runes
namespace Go.Proofs.Ytkdiffpbljohkay.L5
open Go.RowKit L1 L4
set_option linter.unusedVariables false
attribute [local go_sem] mk_noText mk_emptyText mk_oneLetter mk_anyLetter mk_thenShape mk_eitherShape mk_manyShape mk_notShape as_noText_noText as_noText_emptyText as_noText_oneLetter as_noText_anyLetter as_noText_thenShape as_noText_eitherShape as_noText_manyShape as_noText_notShape as_emptyText_noText as_emptyText_emptyText as_emptyText_oneLetter as_emptyText_anyLetter as_emptyText_thenShape as_emptyText_eitherShape as_emptyText_manyShape as_emptyText_notShape as_oneLetter_noText as_oneLetter_emptyText as_oneLetter_oneLetter as_oneLetter_anyLetter as_oneLetter_thenShape as_oneLetter_eitherShape as_oneLetter_manyShape as_oneLetter_notShape as_anyLetter_noText as_anyLetter_emptyText as_anyLetter_oneLetter as_anyLetter_anyLetter as_anyLetter_thenShape as_anyLetter_eitherShape as_anyLetter_manyShape as_anyLetter_notShape as_thenShape_noText as_thenShape_emptyText as_thenShape_oneLetter as_thenShape_anyLetter as_thenShape_thenShape as_thenShape_eitherShape as_thenShape_manyShape as_thenShape_notShape as_eitherShape_noText as_eitherShape_emptyText as_eitherShape_oneLetter as_eitherShape_anyLetter as_eitherShape_thenShape as_eitherShape_eitherShape as_eitherShape_manyShape as_eitherShape_notShape as_manyShape_noText as_manyShape_emptyText as_manyShape_oneLetter as_manyShape_anyLetter as_manyShape_thenShape as_manyShape_eitherShape as_manyShape_manyShape as_manyShape_notShape as_notShape_noText as_notShape_emptyText as_notShape_oneLetter as_notShape_anyLetter as_notShape_thenShape as_notShape_eitherShape as_notShape_manyShape as_notShape_notShape
/-- The text of a shape. -/
def tx : Sh → ByteArray
  | .none => ⟨#[33]⟩
  | .empty => ⟨#[37]⟩
  | .letter c => one c
  | .any => ⟨#[46]⟩
  | .seq a b => ((⟨#[40]⟩ : ByteArray) ++ tx a ++ tx b) ++ (⟨#[41]⟩ : ByteArray)
  | .alt a b => (((⟨#[91]⟩ : ByteArray) ++ tx a) ++ (⟨#[124]⟩ : ByteArray) ++ tx b) ++ (⟨#[93]⟩ : ByteArray)
  | .many a => tx a ++ (⟨#[42]⟩ : ByteArray)
  | .inv a => tx a ++ (⟨#[94]⟩ : ByteArray)
theorem tx_size : ∀ x, (tx x).size ≤ 3 * sz x
  | .none => by simp [tx, sz]; decide
  | .empty => by simp [tx, sz]; decide
  | .letter c => by simp [tx, sz, one_size]
  | .any => by simp [tx, sz]; decide
  | .seq a b => by
    have h1 := tx_size a
    have h2 := tx_size b
    have e1 : (⟨#[40]⟩ : ByteArray).size = 1 := rfl
    have e2 : (⟨#[41]⟩ : ByteArray).size = 1 := rfl
    simp only [tx, sz, ByteArray.size_append, e1, e2]
    omega
  | .alt a b => by
    have h1 := tx_size a
    have h2 := tx_size b
    have e1 : (⟨#[91]⟩ : ByteArray).size = 1 := rfl
    have e2 : (⟨#[93]⟩ : ByteArray).size = 1 := rfl
    have e3 : (⟨#[124]⟩ : ByteArray).size = 1 := rfl
    simp only [tx, sz, ByteArray.size_append, e1, e2, e3]
    omega
  | .many a => by
    have h1 := tx_size a
    have e1 : (⟨#[42]⟩ : ByteArray).size = 1 := rfl
    simp only [tx, sz, ByteArray.size_append, e1]
    omega
  | .inv a => by
    have h1 := tx_size a
    have e1 : (⟨#[94]⟩ : ByteArray).size = 1 := rfl
    simp only [tx, sz, ByteArray.size_append, e1]
    omega
theorem one_sz (c : UInt8) : (⟨#[c]⟩ : ByteArray).size = 1 := rfl
theorem ret_str {a b : ByteArray} (h : a = b) : Ending.returned (.string a) = .returned (.string b) := by rw [h]
theorem keep1T {wa wb : World} {B1 O1 N : Nat} {v1 v2 : Value} {B2 O2 : Nat} {W : World} (h : (wa.cell? ⟨B1, O1, none⟩ = some v1 ∧ wa.cell? ⟨B2, O2, none⟩ = some v2) ∧ Below N W wa) (hb : Below wa.heap.size wa wb) (hN : N ≤ W.heap.size) :
    (wb.cell? ⟨B1, O1, none⟩ = some v1 ∧ wb.cell? ⟨B2, O2, none⟩ = some v2) ∧ Below N W wb :=
  ⟨⟨(hb.cell (p := ⟨B1, O1, none⟩) (blk_lt h.1.1)).trans h.1.1, (hb.cell (p := ⟨B2, O2, none⟩) (blk_lt h.1.2)).trans h.1.2⟩, h.2.trans (hb.mono (Nat.le_trans hN h.2.size))⟩
theorem enc_letter {c : Int} (h : 97 ≤ c ∧ c ≤ 122) : Utf8.encode c = one c := by
  have hv : Utf8.valid c = true := by unfold Utf8.valid; simp; omega
  unfold Utf8.encode one strOfNums
  rw [if_pos hv]
  simp only
  rw [if_pos (by omega)]
  rfl
set_option maxRecDepth 100000 in
set_option maxHeartbeats 8000000 in
theorem textOf_any : ∀ (x : Sh) (w : World), okS x → sz x ≤ 1000000 → Calls Try.prog 52 #[sv x] w fun e w' => e = .returned (.string (tx x)) ∧ Below w.heap.size w w'
  | .none, w, _, _ => by
    show Calls Try.prog 52 #[.iface 105 (.agg #[])] w _
    go_enter Try.func52, Try.ntmps52
    go_wp2
    go_ret
    exact ⟨rfl, Below.refl _ _⟩
  | .empty, w, _, _ => by
    show Calls Try.prog 52 #[.iface 101 (.agg #[])] w _
    go_enter Try.func52, Try.ntmps52
    go_wp2
    go_ret
    exact ⟨rfl, (Below.refl _ _).alloc (Nat.le_refl _) _⟩
  | .any, w, _, _ => by
    show Calls Try.prog 52 #[.iface 102 (.agg #[])] w _
    go_enter Try.func52, Try.ntmps52
    go_wp2
    go_ret
    exact ⟨rfl, (Below.refl _ _).alloc (Nat.le_refl _) _⟩
  | .letter c, w, hc, _ => by
    show Calls Try.prog 52 #[.iface 91 (.agg #[.int .u8 c])] w _
    have HE := hide (enc_letter hc)
    obtain ⟨h1, h2⟩ := hc
    go_enter Try.func52, Try.ntmps52
    go_wp2
    go_ret
    exact ⟨ret_str HE.out, (Below.refl _ _).alloc (Nat.le_refl _) _⟩
  | .seq a b, w, hok, hsz => by
    simp only [sz] at hsz
    have IA := hide (fun w => textOf_any a w hok.1 (by omega))
    have IB := hide (fun w => textOf_any b w hok.2 (by omega))
    have ha := tx_size a
    have hb := tx_size b
    show Calls Try.prog 52 #[.iface 93 (.agg #[sv a, sv b])] w _
    obtain ⟨W, hW⟩ : ∃ W, W = w.alloc (.cells #[sv a, sv b] 93) := ⟨_, rfl⟩
    have HB0 : Hid (Below w.heap.size w W) := hide (by rw [hW]; exact (Below.refl _ _).alloc (Nat.le_refl _) _)
    have c0 : W.cell? ⟨w.heap.size, 0, none⟩ = some (sv a) := by rw [hW]; simp
    have c1 : W.cell? ⟨w.heap.size, 1, none⟩ = some (sv b) := by rw [hW]; simp
    obtain ⟨A, hA⟩ : ∃ A, A = tx a := ⟨_, rfl⟩
    obtain ⟨B, hB⟩ : ∃ B, B = tx b := ⟨_, rfl⟩
    have HR : Hid (tx (.seq a b) = ((⟨#[40]⟩ : ByteArray) ++ A ++ B) ++ (⟨#[41]⟩ : ByteArray)) := hide (by rw [hA, hB]; rfl)
    simp only [← hA] at IA ha
    simp only [← hB] at IB hb
    have ha2 : (A.size : Int) ≤ 3000000 := by omega
    have hb2 : (B.size : Int) ≤ 3000000 := by omega
    rw [HR.out]
    have q0 : ∀ w : World, (Op.stringOp .add (⟨#[40]⟩ : ByteArray) (A)).run Try.prog w = .ok (.string ((⟨#[40]⟩ : ByteArray) ++ (A))) w := fun w => run_string_add_sum w _ _ (by simp only [one_sz]; omega)
    have q1 : ∀ w : World, (Op.stringOp .add ((⟨#[40]⟩ : ByteArray) ++ (A)) (B)).run Try.prog w = .ok (.string (((⟨#[40]⟩ : ByteArray) ++ (A)) ++ (B))) w := fun w => run_string_add_sum w _ _ (by simp only [ByteArray.size_append, one_sz]; omega)
    have q2 : ∀ w : World, (Op.stringOp .add (((⟨#[40]⟩ : ByteArray) ++ (A)) ++ (B)) (⟨#[41]⟩ : ByteArray)).run Try.prog w = .ok (.string ((((⟨#[40]⟩ : ByteArray) ++ (A)) ++ (B)) ++ (⟨#[41]⟩ : ByteArray))) w := fun w => run_string_add_sum w _ _ (by simp only [ByteArray.size_append, one_sz]; omega)
    clear hA hB ha hb hok hsz HR
    go_enter Try.func52, Try.ntmps52
    go_wp2
    rw [← hW]
    clear hW
    go_region_held3 (fun wx => (wx.cell? ⟨w.heap.size, 0, none⟩ = some (sv a) ∧ wx.cell? ⟨w.heap.size, 1, none⟩ = some (sv b)) ∧ Below W.heap.size W wx) (first | exact ⟨⟨c0, c1⟩, (Below.refl _ _).drew⟩ | exact keep1T (by assumption) (by assumption) (Nat.le_refl _)) (first | (go_at_call_of 52 (sv a); refine (IA.out _).mono ?_; rintro e w1 ⟨rfl, hb⟩) | (go_at_call_of 52 (sv b); refine (IB.out _).mono ?_; rintro e w1 ⟨rfl, hb⟩))
    rename_i hHeld
    have B1 := hide (HB0.out.trans (hHeld.2.mono HB0.out.size))
    clear hHeld
    go_wp2
    go_ret
    exact ⟨rfl, B1.out⟩
  | .alt a b, w, hok, hsz => by
    simp only [sz] at hsz
    have IA := hide (fun w => textOf_any a w hok.1 (by omega))
    have IB := hide (fun w => textOf_any b w hok.2 (by omega))
    have ha := tx_size a
    have hb := tx_size b
    show Calls Try.prog 52 #[.iface 96 (.agg #[sv a, sv b])] w _
    obtain ⟨W, hW⟩ : ∃ W, W = w.alloc (.cells #[sv a, sv b] 96) := ⟨_, rfl⟩
    have HB0 : Hid (Below w.heap.size w W) := hide (by rw [hW]; exact (Below.refl _ _).alloc (Nat.le_refl _) _)
    have c0 : W.cell? ⟨w.heap.size, 0, none⟩ = some (sv a) := by rw [hW]; simp
    have c1 : W.cell? ⟨w.heap.size, 1, none⟩ = some (sv b) := by rw [hW]; simp
    obtain ⟨A, hA⟩ : ∃ A, A = tx a := ⟨_, rfl⟩
    obtain ⟨B, hB⟩ : ∃ B, B = tx b := ⟨_, rfl⟩
    have HR : Hid (tx (.alt a b) = (((⟨#[91]⟩ : ByteArray) ++ A) ++ (⟨#[124]⟩ : ByteArray) ++ B) ++ (⟨#[93]⟩ : ByteArray)) := hide (by rw [hA, hB]; rfl)
    simp only [← hA] at IA ha
    simp only [← hB] at IB hb
    have ha2 : (A.size : Int) ≤ 3000000 := by omega
    have hb2 : (B.size : Int) ≤ 3000000 := by omega
    rw [HR.out]
    have q0 : ∀ w : World, (Op.stringOp .add (⟨#[91]⟩ : ByteArray) (A)).run Try.prog w = .ok (.string ((⟨#[91]⟩ : ByteArray) ++ (A))) w := fun w => run_string_add_sum w _ _ (by simp only [one_sz]; omega)
    have q1 : ∀ w : World, (Op.stringOp .add ((⟨#[91]⟩ : ByteArray) ++ (A)) (⟨#[124]⟩ : ByteArray)).run Try.prog w = .ok (.string (((⟨#[91]⟩ : ByteArray) ++ (A)) ++ (⟨#[124]⟩ : ByteArray))) w := fun w => run_string_add_sum w _ _ (by simp only [ByteArray.size_append, one_sz]; omega)
    have q2 : ∀ w : World, (Op.stringOp .add (((⟨#[91]⟩ : ByteArray) ++ (A)) ++ (⟨#[124]⟩ : ByteArray)) (B)).run Try.prog w = .ok (.string ((((⟨#[91]⟩ : ByteArray) ++ (A)) ++ (⟨#[124]⟩ : ByteArray)) ++ (B))) w := fun w => run_string_add_sum w _ _ (by simp only [ByteArray.size_append, one_sz]; omega)
    have q3 : ∀ w : World, (Op.stringOp .add ((((⟨#[91]⟩ : ByteArray) ++ (A)) ++ (⟨#[124]⟩ : ByteArray)) ++ (B)) (⟨#[93]⟩ : ByteArray)).run Try.prog w = .ok (.string (((((⟨#[91]⟩ : ByteArray) ++ (A)) ++ (⟨#[124]⟩ : ByteArray)) ++ (B)) ++ (⟨#[93]⟩ : ByteArray))) w := fun w => run_string_add_sum w _ _ (by simp only [ByteArray.size_append, one_sz]; omega)
    clear hA hB ha hb hok hsz HR
    go_enter Try.func52, Try.ntmps52
    go_wp2
    rw [← hW]
    clear hW
    go_region_held3 (fun wx => (wx.cell? ⟨w.heap.size, 0, none⟩ = some (sv a) ∧ wx.cell? ⟨w.heap.size, 1, none⟩ = some (sv b)) ∧ Below W.heap.size W wx) (first | exact ⟨⟨c0, c1⟩, (Below.refl _ _).drew⟩ | exact keep1T (by assumption) (by assumption) (Nat.le_refl _)) (first | (go_at_call_of 52 (sv a); refine (IA.out _).mono ?_; rintro e w1 ⟨rfl, hb⟩) | (go_at_call_of 52 (sv b); refine (IB.out _).mono ?_; rintro e w1 ⟨rfl, hb⟩))
    rename_i hHeld
    have B1 := hide (HB0.out.trans (hHeld.2.mono HB0.out.size))
    clear hHeld
    go_wp2
    go_ret
    exact ⟨rfl, B1.out⟩
  | .many a, w, hok, hsz => by
    simp only [sz] at hsz
    have IA := hide (fun w => textOf_any a w hok (by omega))
    have ha := tx_size a
    show Calls Try.prog 52 #[.iface 98 (.agg #[sv a])] w _
    have HB0 := hide ((Below.refl w.heap.size w).alloc (Nat.le_refl _) (.cells #[sv a] 98))
    have ha2 : ((tx a).size : Int) ≤ 3000000 := by omega
    clear ha hok hsz
    go_enter Try.func52, Try.ntmps52
    go_wp2_with fail
    refine (IA.out _).mono ?_
    rintro e w1 ⟨rfl, hb1⟩
    have B1 := hide (HB0.out.trans (hb1.mono HB0.out.size))
    clear hb1
    go_wp2
    go_ret
    exact ⟨rfl, B1.out⟩
  | .inv a, w, hok, hsz => by
    simp only [sz] at hsz
    have IA := hide (fun w => textOf_any a w hok (by omega))
    have ha := tx_size a
    show Calls Try.prog 52 #[.iface 99 (.agg #[sv a])] w _
    have HB0 := hide ((Below.refl w.heap.size w).alloc (Nat.le_refl _) (.cells #[sv a] 99))
    have ha2 : ((tx a).size : Int) ≤ 3000000 := by omega
    clear ha hok hsz
    go_enter Try.func52, Try.ntmps52
    go_wp2_with fail
    refine (IA.out _).mono ?_
    rintro e w1 ⟨rfl, hb1⟩
    have B1 := hide (HB0.out.trans (hb1.mono HB0.out.size))
    clear hb1
    go_wp2
    go_ret
    exact ⟨rfl, B1.out⟩
end Go.Proofs.Ytkdiffpbljohkay.L5
