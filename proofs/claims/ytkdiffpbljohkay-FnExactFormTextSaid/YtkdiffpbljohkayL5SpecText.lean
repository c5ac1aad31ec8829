/-
  Contracts: spec.l5Text, spec.FormText, impl.FormText: the text of a good form.
-/
import Derived.Test.YtkdiffpbljohkayL5Text
import Derived.Test.YtkdiffpbljohkayL5ShapeOf
import Derived.Test.YtkdiffpbljohkayL5SpecGood
namespace Go.Proofs.Ytkdiffpbljohkay.L5
open Go.RowKit L1 L4
set_option linter.unusedVariables false

set_option maxRecDepth 100000 in
set_option maxHeartbeats 8000000 in
theorem l5Text_any (S : Nat → Prop) : ∀ (x : Sh) (p : Option Addr) (w : World), Tr w S p x → okS x → sz x ≤ 1000000 → Calls Try.prog 51 #[.pointer p] w fun e w' => e = .returned (.string (tx x)) ∧ Below w.heap.size w w'
  | .none, p, w, ⟨g, pa, pb, e, _, hf⟩, _, _ => by
    subst e
    have c0 := hf.k
    have c1 := hf.t
    clear hf
    go_enter Try.func51, Try.ntmps51
    go_wp2
    go_ret
    exact ⟨rfl, Below.refl _ _⟩
  | .empty, p, w, ⟨g, pa, pb, e, _, hf⟩, _, _ => by
    subst e
    have c0 := hf.k
    have c1 := hf.t
    clear hf
    go_enter Try.func51, Try.ntmps51
    go_wp2
    go_ret
    exact ⟨rfl, Below.refl _ _⟩
  | .letter c, p, w, ⟨g, pa, pb, e, _, hf⟩, _, _ => by
    subst e
    have c0 := hf.k
    have c1 := hf.t
    clear hf
    go_enter Try.func51, Try.ntmps51
    go_wp2
    go_ret
    exact ⟨rfl, Below.refl _ _⟩
  | .any, p, w, ⟨g, pa, pb, e, _, hf⟩, _, _ => by
    subst e
    have c0 := hf.k
    have c1 := hf.t
    clear hf
    go_enter Try.func51, Try.ntmps51
    go_wp2
    go_ret
    exact ⟨rfl, Below.refl _ _⟩
  | .seq a b, p, w, ⟨g, pa, pb, e, _, hf, ta, tb⟩, hok, hsz => by
    subst e
    simp only [sz] at hsz
    have IA := hide (fun w h => l5Text_any S a pa w h hok.1 (by omega))
    have IB := hide (fun w h => l5Text_any S b pb w h hok.2 (by omega))
    have TA := hide ta
    have TB := hide tb
    have ha := tx_size a
    have hb := tx_size b
    have c0 := hf.k
    have c2 := hf.a
    have c3 := hf.b
    obtain ⟨A, hA⟩ : ∃ A, A = tx a := ⟨_, rfl⟩
    obtain ⟨B, hB⟩ : ∃ B, B = tx b := ⟨_, rfl⟩
    have HR : Hid (tx (.seq a b) = ((⟨#[40]⟩ : ByteArray) ++ A ++ B) ++ (⟨#[41]⟩ : ByteArray)) := hide (by rw [hA, hB]; rfl)
    simp only [← hA] at IA ha
    simp only [← hB] at IB hb
    rw [HR.out]
    have q0 : ∀ w : World, (Op.stringOp .add (⟨#[40]⟩ : ByteArray) (A)).run Try.prog w = .ok (.string ((⟨#[40]⟩ : ByteArray) ++ (A))) w := fun w => run_string_add_sum w _ _ (by simp only [one_sz]; omega)
    have q1 : ∀ w : World, (Op.stringOp .add ((⟨#[40]⟩ : ByteArray) ++ (A)) (B)).run Try.prog w = .ok (.string (((⟨#[40]⟩ : ByteArray) ++ (A)) ++ (B))) w := fun w => run_string_add_sum w _ _ (by simp only [ByteArray.size_append, one_sz]; omega)
    have q2 : ∀ w : World, (Op.stringOp .add (((⟨#[40]⟩ : ByteArray) ++ (A)) ++ (B)) (⟨#[41]⟩ : ByteArray)).run Try.prog w = .ok (.string ((((⟨#[40]⟩ : ByteArray) ++ (A)) ++ (B)) ++ (⟨#[41]⟩ : ByteArray))) w := fun w => run_string_add_sum w _ _ (by simp only [ByteArray.size_append, one_sz]; omega)
    clear hA hB ha hb hok hsz HR hf ta tb
    go_enter Try.func51, Try.ntmps51
    go_wp2
    go_region_held3 (fun wx => (wx.cell? ⟨g, 2, none⟩ = some (.pointer pa) ∧ wx.cell? ⟨g, 3, none⟩ = some (.pointer pb)) ∧ Below w.heap.size w wx) (first | exact ⟨⟨c2, c3⟩, (Below.refl _ _).drew⟩ | exact keep1T (by assumption) (by assumption) (Nat.le_refl _)) (first | (go_at_call_of 51 (Value.pointer pa); refine (IA.out _ (TA.out.below (show (_ ∧ _) ∧ Below w.heap.size w _ by assumption).2)).mono ?_; rintro e w1 ⟨rfl, hb⟩) | (go_at_call_of 51 (Value.pointer pb); refine (IB.out _ (TB.out.below (show (_ ∧ _) ∧ Below w.heap.size w _ by assumption).2)).mono ?_; rintro e w1 ⟨rfl, hb⟩))
    rename_i hHeld
    have B1 := hide hHeld.2
    clear hHeld
    go_wp2
    go_ret
    exact ⟨rfl, B1.out⟩
  | .alt a b, p, w, ⟨g, pa, pb, e, _, hf, ta, tb⟩, hok, hsz => by
    subst e
    simp only [sz] at hsz
    have IA := hide (fun w h => l5Text_any S a pa w h hok.1 (by omega))
    have IB := hide (fun w h => l5Text_any S b pb w h hok.2 (by omega))
    have TA := hide ta
    have TB := hide tb
    have ha := tx_size a
    have hb := tx_size b
    have c0 := hf.k
    have c2 := hf.a
    have c3 := hf.b
    obtain ⟨A, hA⟩ : ∃ A, A = tx a := ⟨_, rfl⟩
    obtain ⟨B, hB⟩ : ∃ B, B = tx b := ⟨_, rfl⟩
    have HR : Hid (tx (.alt a b) = (((⟨#[91]⟩ : ByteArray) ++ A) ++ (⟨#[124]⟩ : ByteArray) ++ B) ++ (⟨#[93]⟩ : ByteArray)) := hide (by rw [hA, hB]; rfl)
    simp only [← hA] at IA ha
    simp only [← hB] at IB hb
    rw [HR.out]
    have q0 : ∀ w : World, (Op.stringOp .add (⟨#[91]⟩ : ByteArray) (A)).run Try.prog w = .ok (.string ((⟨#[91]⟩ : ByteArray) ++ (A))) w := fun w => run_string_add_sum w _ _ (by simp only [one_sz]; omega)
    have q1 : ∀ w : World, (Op.stringOp .add ((⟨#[91]⟩ : ByteArray) ++ (A)) (⟨#[124]⟩ : ByteArray)).run Try.prog w = .ok (.string (((⟨#[91]⟩ : ByteArray) ++ (A)) ++ (⟨#[124]⟩ : ByteArray))) w := fun w => run_string_add_sum w _ _ (by simp only [ByteArray.size_append, one_sz]; omega)
    have q2 : ∀ w : World, (Op.stringOp .add (((⟨#[91]⟩ : ByteArray) ++ (A)) ++ (⟨#[124]⟩ : ByteArray)) (B)).run Try.prog w = .ok (.string ((((⟨#[91]⟩ : ByteArray) ++ (A)) ++ (⟨#[124]⟩ : ByteArray)) ++ (B))) w := fun w => run_string_add_sum w _ _ (by simp only [ByteArray.size_append, one_sz]; omega)
    have q3 : ∀ w : World, (Op.stringOp .add ((((⟨#[91]⟩ : ByteArray) ++ (A)) ++ (⟨#[124]⟩ : ByteArray)) ++ (B)) (⟨#[93]⟩ : ByteArray)).run Try.prog w = .ok (.string (((((⟨#[91]⟩ : ByteArray) ++ (A)) ++ (⟨#[124]⟩ : ByteArray)) ++ (B)) ++ (⟨#[93]⟩ : ByteArray))) w := fun w => run_string_add_sum w _ _ (by simp only [ByteArray.size_append, one_sz]; omega)
    clear hA hB ha hb hok hsz HR hf ta tb
    go_enter Try.func51, Try.ntmps51
    go_wp2
    go_region_held3 (fun wx => (wx.cell? ⟨g, 2, none⟩ = some (.pointer pa) ∧ wx.cell? ⟨g, 3, none⟩ = some (.pointer pb)) ∧ Below w.heap.size w wx) (first | exact ⟨⟨c2, c3⟩, (Below.refl _ _).drew⟩ | exact keep1T (by assumption) (by assumption) (Nat.le_refl _)) (first | (go_at_call_of 51 (Value.pointer pa); refine (IA.out _ (TA.out.below (show (_ ∧ _) ∧ Below w.heap.size w _ by assumption).2)).mono ?_; rintro e w1 ⟨rfl, hb⟩) | (go_at_call_of 51 (Value.pointer pb); refine (IB.out _ (TB.out.below (show (_ ∧ _) ∧ Below w.heap.size w _ by assumption).2)).mono ?_; rintro e w1 ⟨rfl, hb⟩))
    rename_i hHeld
    have B1 := hide hHeld.2
    clear hHeld
    go_wp2
    go_ret
    exact ⟨rfl, B1.out⟩
  | .many a, p, w, ⟨g, pa, pb, e, _, hf, ta⟩, hok, hsz => by
    subst e
    simp only [sz] at hsz
    have IA := hide (l5Text_any S a pa w ta hok (by omega))
    have ha := tx_size a
    have c0 := hf.k
    have c2 := hf.a
    have ha2 : ((tx a).size : Int) ≤ 3000000 := by omega
    clear ha hok hsz hf ta
    go_enter Try.func51, Try.ntmps51
    go_wp2_with fail
    refine IA.out.mono ?_
    rintro e w1 ⟨rfl, hb1⟩
    have B1 := hide hb1
    clear hb1
    go_wp2
    go_ret
    exact ⟨rfl, B1.out⟩
  | .inv a, p, w, ⟨g, pa, pb, e, _, hf, ta⟩, hok, hsz => by
    subst e
    simp only [sz] at hsz
    have IA := hide (l5Text_any S a pa w ta hok (by omega))
    have ha := tx_size a
    have c0 := hf.k
    have c2 := hf.a
    have ha2 : ((tx a).size : Int) ≤ 3000000 := by omega
    clear ha hok hsz hf ta
    go_enter Try.func51, Try.ntmps51
    go_wp2_with fail
    refine IA.out.mono ?_
    rintro e w1 ⟨rfl, hb1⟩
    have B1 := hide hb1
    clear hb1
    go_wp2
    go_ret
    exact ⟨rfl, B1.out⟩
open Classical in
set_option maxRecDepth 100000 in
set_option maxHeartbeats 2000000 in
theorem specFormText_any (a : Option Addr) (l : List Pr) (n cap : Nat) (w : World) (hn : l.length = n) (hs : SlP w a l) (hn2 : n ≤ 1048576) (hst : TxP l) (b2 : Bool) (t : ByteArray) (h2 : b2 = true ↔ GoodF l) (h1 : t = if b2 = true then tx (whole l) else ByteArray.empty) :
    Calls Try.prog 25 #[.slice a n cap] w fun e w' => e = .returned (.tuple #[.string t, .bool b2]) ∧ Below w.heap.size w w' := by
  have C1 := hide (specGoodForm_any a l n cap w hn hs hn2 hst b2 h2)
  by_cases hg : GoodF l
  · obtain rfl : b2 = true := h2.2 hg
    have C2 := hide (fun w hs => l5Tree_whole a l n cap w hn hg hs)
    have HOK := hide (okS_whole hg)
    have HSZ : Hid (sz (whole l) ≤ 1000000) := hide (by rw [whole_size hg]; have := hg.1; omega)
    have HS := hide hs
    rw [if_pos rfl] at h1
    have H1 := hide h1
    have hnI : (1 : Int) ≤ (n : Int) := by have := hg.1; omega
    clear hn hs hst h2 h1 hg
    go_enter Try.func25, Try.ntmps25
    go_wp2_with fail
    refine C1.out.mono ?_
    rintro e w1 ⟨rfl, hb1⟩
    have B1 := hide hb1
    clear hb1
    go_wp2_with fail
    refine (C2.out _ (HS.out.below B1.out)).mono ?_
    rintro e w2 ⟨p, rfl, ht, hb2⟩
    have B2 := hide (B1.out.trans (hb2.mono B1.out.size))
    have C3 := hide (l5Text_any _ _ _ _ ht HOK.out HSZ.out)
    clear hb2 ht
    go_wp2_with fail
    refine C3.out.mono ?_
    rintro e w3 ⟨rfl, hb3⟩
    have B3 := hide (B2.out.trans (hb3.mono B2.out.size))
    clear hb3
    go_wp2
    go_ret2
    exact ⟨by rw [H1.out]; rfl, B3.out⟩
  · obtain rfl : b2 = false := bool_noT h2 hg
    rw [if_neg (by simp)] at h1
    subst h1
    clear hn hs hst h2 hg
    go_enter Try.func25, Try.ntmps25
    go_wp2_with fail
    refine C1.out.mono ?_
    rintro e w1 ⟨rfl, hb1⟩
    go_wp2
    go_ret2
    exact ⟨rfl, hb1⟩
open Classical in
set_option maxRecDepth 100000 in
set_option maxHeartbeats 2000000 in
theorem implFormText_any (a : Option Addr) (l : List Pr) (n cap : Nat) (w : World) (hn : l.length = n) (hs : SlP w a l) (hn2 : n ≤ 1048576) (hst : TxP l) (b2 : Bool) (t : ByteArray) (h2 : b2 = true ↔ GoodF l) (h1 : t = if b2 = true then tx (whole l) else ByteArray.empty) :
    Calls Try.prog 26 #[.slice a n cap] w fun e w' => e = .returned (.tuple #[.string t, .bool b2]) ∧ Below w.heap.size w w' := by
  have C1 := hide (goodForm_any a l n cap w hn hs hn2 hst b2 h2)
  by_cases hg : GoodF l
  · obtain rfl : b2 = true := h2.2 hg
    have C2 := hide (fun w hs => shapeOf_any a l n cap w hn hs hg)
    have HOK := hide (okS_whole hg)
    have HSZ : Hid (sz (whole l) ≤ 1000000) := hide (by rw [whole_size hg]; have := hg.1; omega)
    have HS := hide hs
    rw [if_pos rfl] at h1
    have H1 := hide h1
    have hnI : (1 : Int) ≤ (n : Int) := by have := hg.1; omega
    clear hn hs hst h2 h1 hg
    go_enter Try.func26, Try.ntmps26
    go_wp2_with fail
    refine C1.out.mono ?_
    rintro e w1 ⟨rfl, hb1⟩
    have B1 := hide hb1
    clear hb1
    go_wp2_with fail
    refine (C2.out _ (HS.out.below B1.out)).mono ?_
    rintro e w2 ⟨rfl, hb2⟩
    have B2 := hide (B1.out.trans (hb2.mono B1.out.size))
    clear hb2
    go_wp2_with fail
    refine (textOf_any _ _ HOK.out HSZ.out).mono ?_
    rintro e w3 ⟨rfl, hb3⟩
    have B3 := hide (B2.out.trans (hb3.mono B2.out.size))
    clear hb3
    go_wp2
    go_ret2
    exact ⟨by rw [H1.out]; rfl, B3.out⟩
  · obtain rfl : b2 = false := bool_noT h2 hg
    rw [if_neg (by simp)] at h1
    subst h1
    clear hn hs hst h2 hg
    go_enter Try.func26, Try.ntmps26
    go_wp2_with fail
    refine C1.out.mono ?_
    rintro e w1 ⟨rfl, hb1⟩
    go_wp2
    go_ret2
    exact ⟨rfl, hb1⟩
end Go.Proofs.Ytkdiffpbljohkay.L5
