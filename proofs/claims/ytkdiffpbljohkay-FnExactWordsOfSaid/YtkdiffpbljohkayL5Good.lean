/-
  Contracts: impl.namedBy, impl.goodPart: whether a part is good at its place.
-/
import Derived.Test.YtkdiffpbljohkayL5Word
namespace Go.Proofs.Ytkdiffpbljohkay.L5
open Go.RowKit L1 L4
set_option linter.unusedVariables false

/-- The numbers that a part names. -/
def nb (p : Pr) : List Int := if p.k = 5 ∨ p.k = 6 then [p.a, p.b] else if p.k = 7 ∨ p.k = 8 then [p.a] else []
theorem nb_len (p : Pr) : (nb p).length ≤ 2 := by unfold nb; split <;> (try split) <;> simp
theorem ok1 {i : Nat} {t : ByteArray} {k a b : Int} (hk : k = 1 ∨ k = 2 ∨ k = 4) : okP i ⟨k, t, a, b⟩ ↔ t.toList = [] ∧ a = 0 ∧ b = 0 := by
  rcases hk with rfl | rfl | rfl <;> simp [okP, ba_nil]
theorem ok3 {i : Nat} {t : ByteArray} {a b : Int} : okP i ⟨3, t, a, b⟩ ↔ (t.size = 1 ∧ okc (ltr t)) ∧ a = 0 ∧ b = 0 := by simp [okP, okc]
theorem ok5 {i : Nat} {t : ByteArray} {k a b : Int} (hk : k = 5 ∨ k = 6) : okP i ⟨k, t, a, b⟩ ↔ t.toList = [] ∧ (0 ≤ a ∧ a < (i : Int)) ∧ (0 ≤ b ∧ b < (i : Int)) := by
  rcases hk with rfl | rfl <;> simp [okP, ba_nil]
theorem ok7 {i : Nat} {t : ByteArray} {k a b : Int} (hk : k = 7 ∨ k = 8) : okP i ⟨k, t, a, b⟩ ↔ t.toList = [] ∧ (0 ≤ a ∧ a < (i : Int)) ∧ b = 0 := by
  rcases hk with rfl | rfl <;> simp [okP, ba_nil]
theorem ok_nb {i : Nat} {p : Pr} (h : okP i p) : ∀ j, j < (nb p).length → 0 ≤ (nb p).getD j 0 ∧ (nb p).getD j 0 < (i : Int) := by
  intro j hj
  have h2 := nb_len p
  unfold nb at hj ⊢
  rcases h with o | o | o | o
  · rw [if_neg (by omega), if_neg (by omega)] at hj; simp at hj
  · rw [if_neg (by omega), if_neg (by omega)] at hj; simp at hj
  · rw [if_pos (by omega)] at hj ⊢
    match j, hj with
    | 0, _ => exact o.2.2.1
    | 1, _ => exact o.2.2.2
  · rw [if_neg (by omega), if_pos (by omega)] at hj ⊢
    match j, hj with
    | 0, _ => exact o.2.2.1
theorem let_one {t : ByteArray} (h : t.size = 1) : Let t ↔ okc (ltr t) := by
  constructor
  · intro hl; exact hl 0 (by omega)
  · intro h0 k hk
    obtain rfl : k = 0 := by omega
    exact h0
set_option maxRecDepth 100000 in
set_option maxHeartbeats 400000 in
theorem namedBy_two (k : Int) (hk : k = 5 ∨ k = 6) (t : ByteArray) (a b : Int) (w : World) :
    Calls Try.prog 61 #[.agg #[.int .i64 k, .string t, .int .i64 a, .int .i64 b]] w fun e w' => ∃ x n cap, e = .returned (.slice x n cap) ∧ Sl w' x [a, b] ∧ n = 2 ∧ Below w.heap.size w w' ∧ ∀ y, x = some y → w.heap.size ≤ y.block := by
  rcases hk with rfl | rfl
  · go_enter Try.func61, Try.ntmps61
    go_wp2
    go_ret
    refine ⟨_, _, _, rfl, fun i hi => ⟨_, _, rfl, ?_⟩, rfl, ((Below.refl _ _).alloc (Nat.le_refl _) _).alloc (by simp) _, fun y hy => by cases hy; simp⟩
    match i, hi with
    | 0, _ => simp
    | 1, _ => simp
  · go_enter Try.func61, Try.ntmps61
    go_wp2
    go_ret
    refine ⟨_, _, _, rfl, fun i hi => ⟨_, _, rfl, ?_⟩, rfl, ((Below.refl _ _).alloc (Nat.le_refl _) _).alloc (by simp) _, fun y hy => by cases hy; simp⟩
    match i, hi with
    | 0, _ => simp
    | 1, _ => simp
set_option maxRecDepth 100000 in
set_option maxHeartbeats 400000 in
theorem namedBy_one (k : Int) (hk : k = 7 ∨ k = 8) (t : ByteArray) (a b : Int) (w : World) :
    Calls Try.prog 61 #[.agg #[.int .i64 k, .string t, .int .i64 a, .int .i64 b]] w fun e w' => ∃ x n cap, e = .returned (.slice x n cap) ∧ Sl w' x [a] ∧ n = 1 ∧ Below w.heap.size w w' ∧ ∀ y, x = some y → w.heap.size ≤ y.block := by
  rcases hk with rfl | rfl
  · go_enter Try.func61, Try.ntmps61
    go_wp2
    go_ret
    refine ⟨_, _, _, rfl, fun i hi => ⟨_, _, rfl, ?_⟩, rfl, ((Below.refl _ _).alloc (Nat.le_refl _) _).alloc (by simp) _, fun y hy => by cases hy; simp⟩
    match i, hi with
    | 0, _ => simp
  · go_enter Try.func61, Try.ntmps61
    go_wp2
    go_ret
    refine ⟨_, _, _, rfl, fun i hi => ⟨_, _, rfl, ?_⟩, rfl, ((Below.refl _ _).alloc (Nat.le_refl _) _).alloc (by simp) _, fun y hy => by cases hy; simp⟩
    match i, hi with
    | 0, _ => simp
set_option maxRecDepth 100000 in
set_option maxHeartbeats 400000 in
theorem namedBy_no (k : Int) (h5 : (k == 5) = false) (h6 : (k == 6) = false) (h7 : (k == 7) = false) (h8 : (k == 8) = false) (t : ByteArray) (a b : Int) (w : World) :
    Calls Try.prog 61 #[.agg #[.int .i64 k, .string t, .int .i64 a, .int .i64 b]] w fun e w' => ∃ x n cap, e = .returned (.slice x n cap) ∧ Sl w' x [] ∧ n = 0 ∧ Below w.heap.size w w' ∧ ∀ y, x = some y → w.heap.size ≤ y.block := by
  go_enter Try.func61, Try.ntmps61
  go_wp2
  go_ret
  exact ⟨_, _, _, rfl, fun i hi => by simp at hi, rfl, (Below.refl _ _).alloc (Nat.le_refl _) _, fun y hy => by cases hy⟩
theorem namedBy_any (p : Pr) (w : World) :
    Calls Try.prog 61 #[svP p] w fun e w' => ∃ x n cap, e = .returned (.slice x n cap) ∧ Sl w' x (nb p) ∧ n = (nb p).length ∧ Below w.heap.size w w' ∧ ∀ y, x = some y → w.heap.size ≤ y.block := by
  obtain ⟨k, t, a, b⟩ := p
  unfold nb
  by_cases h5 : k = 5 ∨ k = 6
  · rw [if_pos h5]
    exact namedBy_two k h5 t a b w
  · rw [if_neg h5]
    by_cases h7 : k = 7 ∨ k = 8
    · rw [if_pos h7]
      exact namedBy_one k h7 t a b w
    · rw [if_neg h7]
      exact namedBy_no k (by simp; omega) (by simp; omega) (by simp; omega) (by simp; omega) t a b w
theorem three_true {bb : Bool} {p q r : Prop} (h : bb = true ↔ p ∧ q ∧ r) (h1 : p) (h2 : q) (h3 : r) : true = bb := (h.2 ⟨h1, h2, h3⟩).symm
theorem three_f1 {bb : Bool} {p q r : Prop} (h : bb = true ↔ p ∧ q ∧ r) (h1 : ¬ p) : false = bb := (bool_noT h (fun x => h1 x.1)).symm
theorem three_f2 {bb : Bool} {p q r : Prop} (h : bb = true ↔ p ∧ q ∧ r) (h1 : ¬ q) : false = bb := (bool_noT h (fun x => h1 x.2.1)).symm
theorem three_f3 {bb : Bool} {p q r : Prop} (h : bb = true ↔ p ∧ q ∧ r) (h1 : ¬ r) : false = bb := (bool_noT h (fun x => h1 x.2.2)).symm
set_option maxRecDepth 100000 in
set_option maxHeartbeats 4000000 in
theorem goodPart_any (p : Pr) (i : Nat) (w : World) (hx : p.t.size ≤ 9223372036854775807) (bb : Bool) (hbb : bb = true ↔ okP i p) :
    Calls Try.prog 60 #[svP p, .int .i64 (i : Int)] w fun e w' => e = .returned (.bool bb) ∧ Below w.heap.size w w' := by
  have HBB := hide hbb
  have C := hide (fun w => namedBy_any p w)
  have HB0 : Hid (Below w.heap.size w (w.alloc (.cells #[.int .i64 p.k, .string p.t, .int .i64 p.a, .int .i64 p.b] 55))) := hide ((Below.refl _ _).alloc (Nat.le_refl _) _)
  have HLT : Hid (w.heap.size < (w.alloc (.cells #[.int .i64 p.k, .string p.t, .int .i64 p.a, .int .i64 p.b] 55)).heap.size) := by refine hide ?_; simp
  have HC : Hid (AtP (w.alloc (.cells #[.int .i64 p.k, .string p.t, .int .i64 p.a, .int .i64 p.b] 55)) w.heap.size 0 p) := by
    refine hide ⟨?_, ?_, ?_, ?_⟩ <;> simp
  clear hbb
  go_enter Try.func60, Try.ntmps60
  go_wp2_with fail
  refine (C.out _).mono ?_
  rintro e w1 ⟨x, n, cap, rfl, hs, hn, hb1, _⟩
  have HP1 := hide (HC.out.base hb1 HLT.out)
  have B1 := hide (HB0.out.trans (hb1.mono HB0.out.size))
  have HS := hide hs
  have HN := hide hn
  have hn2 : n ≤ 2 := by rw [hn]; exact nb_len p
  have hsz1 : w.heap.size < w1.heap.size := Nat.lt_of_lt_of_le HLT.out hb1.size
  have HZ := hide hsz1
  clear hs hn hb1 hsz1 C
  go_wp2
  go_loopw [10] (fun i' wr => ∃ k : Nat, k ≤ n ∧ i' = .int .i64 k ∧ wr = w1 ∧ Hid (∀ j, j < k → 0 ≤ (nb p).getD j 0 ∧ (nb p).getD j 0 < (i : Int))) (fun i' _ => n - (intOf i').toNat)
  case atStart => exact ⟨0, Nat.zero_le _, rfl, by first | rfl | trivial, fun j hj => absurd hj (Nat.not_lt_zero _)⟩
  case round =>
    obtain ⟨k, hk, rfl, rfl, HJ⟩ := hrel
    by_cases hlt : k < n
    · obtain ⟨b, off, rfl, hc⟩ := HS.out k (by rw [← HN.out]; exact hlt)
      have hltI : (k : Int) < (n : Int) := by omega
      obtain ⟨v, hv⟩ : ∃ v, v = (nb p).getD k 0 := ⟨_, rfl⟩
      rw [← hv] at hc
      have HV := hide hv
      clear hv
      by_cases hok : 0 ≤ v ∧ v < (i : Int)
      · have C2 := hide (fun w => isAhead_any v i w true (iff_of_true rfl hok))
        have HOK := hide hok
        clear hok
        go_wp2_with fail
        refine (C2.out _).mono ?_
        rintro e w2 ⟨rfl, rfl⟩
        go_wp2
        go_roundw
        case rel =>
          refine ⟨k + 1, by omega, by go_num, by first | rfl | trivial, ?_⟩
          intro j hj
          by_cases e : j = k
          · subst e; rw [← HV.out]; exact HOK.out
          · exact HJ.out j (by omega)
        case measure => simp [intOf]; omega
      · have C2 := hide (fun w => isAhead_any v i w false (iff_of_false (by simp) hok))
        have E := hide (bool_noT HBB.out (fun h => hok (by rw [HV.out]; exact ok_nb h k (by rw [← HN.out]; exact hlt))))
        clear hok
        go_wp2_with fail
        refine (C2.out _).mono ?_
        rintro e w2 ⟨rfl, rfl⟩
        go_wp2
        go_ret
        exact ⟨by rw [E.out]; rfl, B1.out⟩
    · obtain rfl : k = n := by omega
      have hltI : ¬ (k : Int) < (k : Int) := by omega
      have d0 := HP1.out.k
      have d1 := HP1.out.t
      have d2 := HP1.out.a
      have d3 := HP1.out.b
      simp only [Nat.zero_add] at d0 d1 d2 d3
      obtain ⟨pk, pt, pa, pb⟩ := p
      simp only at d0 d1 d2 d3 hx
      have HNB : Hid (∀ j, j < (nb ⟨pk, pt, pa, pb⟩).length → 0 ≤ (nb ⟨pk, pt, pa, pb⟩).getD j 0 ∧ (nb ⟨pk, pt, pa, pb⟩).getD j 0 < (i : Int)) := hide (fun j hj => HJ.out j (by rw [HN.out]; exact hj))
      by_cases hk1 : pk = 1
      · subst hk1
        have HQ := hide (HBB.out.trans (ok1 (.inl rfl)))
        go_wp2
        all_goals
          go_ret
          refine ⟨ret_bool ?_, B1.out⟩
          first
          | exact three_true HQ.out (by assumption) (by first | assumption | trivial) (by first | assumption | trivial)
          | exact three_f1 HQ.out (by assumption)
          | exact three_f2 HQ.out (by assumption)
          | exact three_f3 HQ.out (by assumption)
      by_cases hk2 : pk = 2
      · subst hk2
        have HQ := hide (HBB.out.trans (ok1 (.inr (.inl rfl))))
        go_wp2
        all_goals
          go_ret
          refine ⟨ret_bool ?_, B1.out⟩
          first
          | exact three_true HQ.out (by assumption) (by first | assumption | trivial) (by first | assumption | trivial)
          | exact three_f1 HQ.out (by assumption)
          | exact three_f2 HQ.out (by assumption)
          | exact three_f3 HQ.out (by assumption)
      by_cases hk4 : pk = 4
      · subst hk4
        have HQ := hide (HBB.out.trans (ok1 (.inr (.inr rfl))))
        go_wp2
        all_goals
          go_ret
          refine ⟨ret_bool ?_, B1.out⟩
          first
          | exact three_true HQ.out (by assumption) (by first | assumption | trivial) (by first | assumption | trivial)
          | exact three_f1 HQ.out (by assumption)
          | exact three_f2 HQ.out (by assumption)
          | exact three_f3 HQ.out (by assumption)
      by_cases hk5 : pk = 5 ∨ pk = 6
      · have hnb : nb ⟨pk, pt, pa, pb⟩ = [pa, pb] := by unfold nb; rw [if_pos hk5]
        have HA : Hid (0 ≤ pa ∧ pa < (i : Int)) := hide (by have := HNB.out 0; rw [hnb] at this; exact this (by simp))
        have HB : Hid (0 ≤ pb ∧ pb < (i : Int)) := hide (by have := HNB.out 1; rw [hnb] at this; exact this (by simp))
        have HQ := hide (HBB.out.trans (ok5 hk5))
        clear hnb
        rcases hk5 with rfl | rfl
        · go_wp2
          all_goals
            go_ret
            refine ⟨ret_bool ?_, B1.out⟩
            first
            | exact three_true HQ.out (by assumption) HA.out HB.out
            | exact three_f1 HQ.out (by assumption)
        · go_wp2
          all_goals
            go_ret
            refine ⟨ret_bool ?_, B1.out⟩
            first
            | exact three_true HQ.out (by assumption) HA.out HB.out
            | exact three_f1 HQ.out (by assumption)
      by_cases hk7 : pk = 7 ∨ pk = 8
      · have hnb : nb ⟨pk, pt, pa, pb⟩ = [pa] := by unfold nb; rw [if_neg (by simp only; omega), if_pos hk7]
        have HA : Hid (0 ≤ pa ∧ pa < (i : Int)) := hide (by have := HNB.out 0; rw [hnb] at this; exact this (by simp))
        have HQ := hide (HBB.out.trans (ok7 hk7))
        clear hnb
        rcases hk7 with rfl | rfl
        · go_wp2
          all_goals
            go_ret
            refine ⟨ret_bool ?_, B1.out⟩
            first
            | exact three_true HQ.out (by assumption) HA.out (by first | assumption | trivial)
            | exact three_f1 HQ.out (by assumption)
            | exact three_f3 HQ.out (by assumption)
        · go_wp2
          all_goals
            go_ret
            refine ⟨ret_bool ?_, B1.out⟩
            first
            | exact three_true HQ.out (by assumption) HA.out (by first | assumption | trivial)
            | exact three_f1 HQ.out (by assumption)
            | exact three_f3 HQ.out (by assumption)
      by_cases hk3 : pk = 3
      · subst hk3
        have HQ := hide (HBB.out.trans ok3)
        clear hk1 hk2 hk4 hk5 hk7
        by_cases h1 : (pt.size : Int) = 1
        · have hs1 : pt.size = 1 := by omega
          by_cases hl : okc (ltr pt)
          · have C3 := hide (fun w => isFitted_any pt w hx true (iff_of_true rfl ⟨by omega, (let_one hs1).2 hl⟩))
            have HL := hide (And.intro hs1 hl)
            have hnn : (pt.toList == pt.toList) = true := by simp
            clear hl hs1
            go_wp2_with fail
            refine (C3.out _).mono ?_
            rintro e w2 ⟨rfl, hb2⟩
            have A2 := HP1.out.base hb2 HZ.out
            have f0 := A2.k
            have f1 := A2.t
            have f2 := A2.a
            have f3 := A2.b
            simp only [Nat.zero_add] at f0 f1 f2 f3
            have B2 := hide (B1.out.trans (hb2.mono B1.out.size))
            clear hb2 A2
            go_wp2
            all_goals
              go_ret
              refine ⟨ret_bool ?_, B2.out⟩
              first
              | exact three_true HQ.out HL.out (by first | assumption | trivial) (by first | assumption | trivial)
              | exact three_f2 HQ.out (by assumption)
              | exact three_f3 HQ.out (by assumption)
          · have C3 := hide (fun w => isFitted_any pt w hx false (iff_of_false (by simp) (fun h => hl ((let_one hs1).1 h.2))))
            have E := hide (bool_noT HQ.out (fun h => hl h.1.2))
            clear hl hs1
            go_wp2_with fail
            refine (C3.out _).mono ?_
            rintro e w2 ⟨rfl, hb2⟩
            have B2 := hide (B1.out.trans (hb2.mono B1.out.size))
            clear hb2
            go_wp2
            go_ret
            exact ⟨by rw [E.out]; rfl, B2.out⟩
        · have E := hide (bool_noT HQ.out (fun h => h1 (by have := h.1.1; omega)))
          have h1b : ((pt.size : Int) == 1) = false := by simpa using h1
          clear h1
          go_wp2
          go_ret
          exact ⟨by rw [E.out]; rfl, B1.out⟩
      have e1 : (pk == 1) = false := by simpa using hk1
      have e2 : (pk == 2) = false := by simpa using hk2
      have e3 : (pk == 3) = false := by simpa using hk3
      have e4 : (pk == 4) = false := by simpa using hk4
      have e5 : (pk == 5) = false := by simp; omega
      have e6 : (pk == 6) = false := by simp; omega
      have e7 : (pk == 7) = false := by simp; omega
      have e8 : (pk == 8) = false := by simp; omega
      have E := hide (bool_noT HBB.out (fun h => by have := okP_kind h; simp only at this; omega))
      clear hk1 hk2 hk3 hk4 hk5 hk7
      go_wp2
      go_ret
      exact ⟨by rw [E.out]; rfl, B1.out⟩
end Go.Proofs.Ytkdiffpbljohkay.L5
