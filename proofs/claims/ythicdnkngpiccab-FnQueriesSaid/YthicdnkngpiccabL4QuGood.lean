/-
  Contracts: impl.isAhead, impl.goodQueryPart, impl.GoodQuery: whether a query is good.
-/
import Derived.Test.YthicdnkngpiccabL4Qu
import Derived.Test.YthicdnkngpiccabL3Good
namespace Go.Proofs.Ythicdnkngpiccab.L4
open Go.RowKit L1 L3
set_option linter.unusedVariables false

theorem ba_nil {n : ByteArray} : n.toList = [] ↔ n = ByteArray.empty := by
  constructor
  · intro h
    apply ByteArray.ext
    apply Array.toList_inj.1
    rw [← ByteArray.toList_eq, h]
    rfl
  · rintro rfl
    rw [ByteArray.toList_eq]
    rfl
theorem ret_bool {bb c : Bool} (h : c = bb) : Ending.returned (.bool c) = .returned (.bool bb) := by rw [h]
theorem four_true {bb : Bool} {p q r s : Prop} (h : bb = true ↔ p ∧ q ∧ r ∧ s) (h1 : p) (h2 : q) (h3 : r) (h4 : s) : true = bb := (h.2 ⟨h1, h2, h3, h4⟩).symm
theorem four_f1 {bb : Bool} {p q r s : Prop} (h : bb = true ↔ p ∧ q ∧ r ∧ s) (h1 : ¬ p) : false = bb := (bool_noT h (fun x => h1 x.1)).symm
theorem four_f2 {bb : Bool} {p q r s : Prop} (h : bb = true ↔ p ∧ q ∧ r ∧ s) (h1 : ¬ q) : false = bb := (bool_noT h (fun x => h1 x.2.1)).symm
theorem four_f3 {bb : Bool} {p q r s : Prop} (h : bb = true ↔ p ∧ q ∧ r ∧ s) (h1 : ¬ r) : false = bb := (bool_noT h (fun x => h1 x.2.2.1)).symm
theorem four_f4 {bb : Bool} {p q r s : Prop} (h : bb = true ↔ p ∧ q ∧ r ∧ s) (h1 : ¬ s) : false = bb := (bool_noT h (fun x => h1 x.2.2.2)).symm
set_option maxRecDepth 100000 in
set_option maxHeartbeats 400000 in
theorem isAhead_any (x at_ : Int) (w : World) (bb : Bool) (hbb : bb = true ↔ 0 ≤ x ∧ x < at_) :
    Calls Try.prog 67 #[.int .i64 x, .int .i64 at_] w fun e w' => e = .returned (.bool bb) ∧ w = w' := by
  by_cases h1 : 0 ≤ x
  · by_cases h2 : x < at_
    · obtain rfl : bb = true := hbb.2 ⟨h1, h2⟩
      clear hbb
      go_enter Try.func67, Try.ntmps67
      go_wp2
      go_ret
      exact ⟨rfl, rfl⟩
    · obtain rfl : bb = false := bool_noT hbb (fun h => h2 h.2)
      clear hbb
      go_enter Try.func67, Try.ntmps67
      go_wp2
      go_ret
      exact ⟨rfl, rfl⟩
  · obtain rfl : bb = false := bool_noT hbb (fun h => h1 h.1)
    clear hbb
    go_enter Try.func67, Try.ntmps67
    go_wp2
    go_ret
    exact ⟨rfl, rfl⟩

set_option maxRecDepth 100000 in
set_option maxHeartbeats 2000000 in
theorem part1 (n v : ByteArray) (a b at_ : Int) (w : World) (bb : Bool) (hbb : bb = true ↔ n.toList = [] ∧ v.toList = [] ∧ a = 0 ∧ b = 0) :
    Calls Try.prog 46 #[.agg #[.int .i64 1, .string n, .string v, .int .i64 a, .int .i64 b], .int .i64 at_] w fun e w' => e = .returned (.bool bb) ∧ Below w.heap.size w w' := by
  have HBB := hide hbb
  clear hbb
  go_enter Try.func46, Try.ntmps46
  go_wp2
  all_goals
    go_ret
    refine ⟨ret_bool ?_, (Below.refl _ _).alloc (Nat.le_refl _) _⟩
    first
    | exact four_true HBB.out (by first | assumption | trivial) (by first | assumption | trivial) (by first | assumption | trivial) (by first | assumption | trivial)
    | exact four_f1 HBB.out (by assumption)
    | exact four_f2 HBB.out (by assumption)
    | exact four_f3 HBB.out (by assumption)
    | exact four_f4 HBB.out (by assumption)

set_option maxRecDepth 100000 in
set_option maxHeartbeats 2000000 in
theorem part2 (n v : ByteArray) (a b at_ : Int) (w : World) (bb : Bool) (hx : n.size ≤ 9223372036854775807) (hy : v.size ≤ 9223372036854775807) (hbb : bb = true ↔ okL (n, v) ∧ a = 0 ∧ b = 0) :
    Calls Try.prog 46 #[.agg #[.int .i64 2, .string n, .string v, .int .i64 a, .int .i64 b], .int .i64 at_] w fun e w' => e = .returned (.bool bb) ∧ Below w.heap.size w w' := by
  have HBB := hide hbb
  clear hbb
  have hb0 : Below w.heap.size w (w.alloc (.cells #[.int .i64 2, .string n, .string v, .int .i64 a, .int .i64 b] 51)) := (Below.refl _ _).alloc (Nat.le_refl _) _
  have HB0 := hide hb0
  have HLT : Hid (w.heap.size < (w.alloc (.cells #[.int .i64 2, .string n, .string v, .int .i64 a, .int .i64 b] 51)).heap.size) := by refine hide ?_; simp
  have HC : Hid (AtQ (w.alloc (.cells #[.int .i64 2, .string n, .string v, .int .i64 a, .int .i64 b] 51)) w.heap.size 0 ⟨2, n, v, a, b⟩) := by
    refine hide ⟨?_, ?_, ?_, ?_, ?_⟩ <;> simp
  clear hb0
  by_cases hok : okL (n, v)
  · have C := hide (fun w => goodLabel_any n v w hx hy true (iff_of_true rfl hok))
    have HOK := hide hok
    clear hx hy hok
    have hnn : (n.toList == n.toList) = true := by simp
    have hvv : (v.toList == v.toList) = true := by simp
    go_enter Try.func46, Try.ntmps46
    go_wp2_with fail
    refine (C.out _).mono ?_
    rintro e w1 ⟨rfl, hb1⟩
    have A1 := HC.out.base hb1 HLT.out
    have d0 := A1.k
    have d1 := A1.n
    have d2 := A1.v
    have d3 := A1.a
    have d4 := A1.b
    simp only [Nat.zero_add] at d0 d1 d2 d3 d4
    have B1 := hide (HB0.out.trans (hb1.mono HB0.out.size))
    clear hb1 A1
    go_wp2
    all_goals
      go_ret
      refine ⟨ret_bool ?_, B1.out⟩
      first
      | exact (HBB.out.2 ⟨HOK.out, by first | assumption | trivial, by first | assumption | trivial⟩).symm
      | exact (bool_noT HBB.out (fun h => absurd h.2.1 (by assumption))).symm
      | exact (bool_noT HBB.out (fun h => absurd h.2.2 (by assumption))).symm
  · have C := hide (fun w => goodLabel_any n v w hx hy false (iff_of_false (by simp) hok))
    have HOK := hide hok
    clear hx hy hok
    go_enter Try.func46, Try.ntmps46
    go_wp2_with fail
    refine (C.out _).mono ?_
    rintro e w1 ⟨rfl, hb1⟩
    have B1 := hide (HB0.out.trans (hb1.mono HB0.out.size))
    clear hb1
    go_wp2
    go_ret
    exact ⟨ret_bool (bool_noT HBB.out (fun h => HOK.out h.1)).symm, B1.out⟩

set_option maxRecDepth 100000 in
set_option maxHeartbeats 2000000 in
theorem part3 (n v : ByteArray) (a b at_ : Int) (w : World) (bb : Bool) (hbb : bb = true ↔ n.toList = [] ∧ v.toList = [] ∧ (0 ≤ a ∧ a < at_) ∧ (0 ≤ b ∧ b < at_)) :
    Calls Try.prog 46 #[.agg #[.int .i64 3, .string n, .string v, .int .i64 a, .int .i64 b], .int .i64 at_] w fun e w' => e = .returned (.bool bb) ∧ Below w.heap.size w w' := by
  have HBB := hide hbb
  clear hbb
  by_cases ha : 0 ≤ a ∧ a < at_
  · have C1 := hide (fun w => isAhead_any a at_ w true (iff_of_true rfl ha))
    have HA := hide ha
    clear ha
    by_cases hb : 0 ≤ b ∧ b < at_
    · have C2 := hide (fun w => isAhead_any b at_ w true (iff_of_true rfl hb))
      have HB := hide hb
      clear hb
      go_enter Try.func46, Try.ntmps46
      go_wp2_with fail
      refine (C1.out _).mono ?_
      rintro e w1 ⟨rfl, rfl⟩
      go_wp2_with fail
      refine (C2.out _).mono ?_
      rintro e w1 ⟨rfl, rfl⟩
      go_wp2
      all_goals
        go_ret
        refine ⟨ret_bool ?_, (Below.refl _ _).alloc (Nat.le_refl _) _⟩
        first
        | exact four_true HBB.out (by assumption) (by assumption) HA.out HB.out
        | exact four_f1 HBB.out (by assumption)
        | exact four_f2 HBB.out (by assumption)
    · have C2 := hide (fun w => isAhead_any b at_ w false (iff_of_false (by simp) hb))
      have HB := hide hb
      clear hb
      go_enter Try.func46, Try.ntmps46
      go_wp2_with fail
      refine (C1.out _).mono ?_
      rintro e w1 ⟨rfl, rfl⟩
      go_wp2_with fail
      refine (C2.out _).mono ?_
      rintro e w1 ⟨rfl, rfl⟩
      go_wp2
      go_ret
      exact ⟨ret_bool (four_f4 HBB.out HB.out), (Below.refl _ _).alloc (Nat.le_refl _) _⟩
  · have C1 := hide (fun w => isAhead_any a at_ w false (iff_of_false (by simp) ha))
    have HA := hide ha
    clear ha
    go_enter Try.func46, Try.ntmps46
    go_wp2_with fail
    refine (C1.out _).mono ?_
    rintro e w1 ⟨rfl, rfl⟩
    go_wp2
    go_ret
    exact ⟨ret_bool (four_f3 HBB.out HA.out), (Below.refl _ _).alloc (Nat.le_refl _) _⟩

set_option maxRecDepth 100000 in
set_option maxHeartbeats 2000000 in
theorem part4 (n v : ByteArray) (a b at_ : Int) (w : World) (bb : Bool) (hbb : bb = true ↔ n.toList = [] ∧ v.toList = [] ∧ (0 ≤ a ∧ a < at_) ∧ (0 ≤ b ∧ b < at_)) :
    Calls Try.prog 46 #[.agg #[.int .i64 4, .string n, .string v, .int .i64 a, .int .i64 b], .int .i64 at_] w fun e w' => e = .returned (.bool bb) ∧ Below w.heap.size w w' := by
  have HBB := hide hbb
  clear hbb
  by_cases ha : 0 ≤ a ∧ a < at_
  · have C1 := hide (fun w => isAhead_any a at_ w true (iff_of_true rfl ha))
    have HA := hide ha
    clear ha
    by_cases hb : 0 ≤ b ∧ b < at_
    · have C2 := hide (fun w => isAhead_any b at_ w true (iff_of_true rfl hb))
      have HB := hide hb
      clear hb
      go_enter Try.func46, Try.ntmps46
      go_wp2_with fail
      refine (C1.out _).mono ?_
      rintro e w1 ⟨rfl, rfl⟩
      go_wp2_with fail
      refine (C2.out _).mono ?_
      rintro e w1 ⟨rfl, rfl⟩
      go_wp2
      all_goals
        go_ret
        refine ⟨ret_bool ?_, (Below.refl _ _).alloc (Nat.le_refl _) _⟩
        first
        | exact four_true HBB.out (by assumption) (by assumption) HA.out HB.out
        | exact four_f1 HBB.out (by assumption)
        | exact four_f2 HBB.out (by assumption)
    · have C2 := hide (fun w => isAhead_any b at_ w false (iff_of_false (by simp) hb))
      have HB := hide hb
      clear hb
      go_enter Try.func46, Try.ntmps46
      go_wp2_with fail
      refine (C1.out _).mono ?_
      rintro e w1 ⟨rfl, rfl⟩
      go_wp2_with fail
      refine (C2.out _).mono ?_
      rintro e w1 ⟨rfl, rfl⟩
      go_wp2
      go_ret
      exact ⟨ret_bool (four_f4 HBB.out HB.out), (Below.refl _ _).alloc (Nat.le_refl _) _⟩
  · have C1 := hide (fun w => isAhead_any a at_ w false (iff_of_false (by simp) ha))
    have HA := hide ha
    clear ha
    go_enter Try.func46, Try.ntmps46
    go_wp2_with fail
    refine (C1.out _).mono ?_
    rintro e w1 ⟨rfl, rfl⟩
    go_wp2
    go_ret
    exact ⟨ret_bool (four_f3 HBB.out HA.out), (Below.refl _ _).alloc (Nat.le_refl _) _⟩

set_option maxRecDepth 100000 in
set_option maxHeartbeats 2000000 in
theorem part5 (n v : ByteArray) (a b at_ : Int) (w : World) (bb : Bool) (hbb : bb = true ↔ n.toList = [] ∧ v.toList = [] ∧ (0 ≤ a ∧ a < at_) ∧ b = 0) :
    Calls Try.prog 46 #[.agg #[.int .i64 5, .string n, .string v, .int .i64 a, .int .i64 b], .int .i64 at_] w fun e w' => e = .returned (.bool bb) ∧ Below w.heap.size w w' := by
  have HBB := hide hbb
  clear hbb
  by_cases ha : 0 ≤ a ∧ a < at_
  · have C1 := hide (fun w => isAhead_any a at_ w true (iff_of_true rfl ha))
    have HA := hide ha
    clear ha
    go_enter Try.func46, Try.ntmps46
    go_wp2_with fail
    refine (C1.out _).mono ?_
    rintro e w1 ⟨rfl, rfl⟩
    go_wp2
    all_goals
      go_ret
      refine ⟨ret_bool ?_, (Below.refl _ _).alloc (Nat.le_refl _) _⟩
      first
      | exact four_true HBB.out (by assumption) (by assumption) HA.out (by first | assumption | trivial)
      | exact four_f1 HBB.out (by assumption)
      | exact four_f2 HBB.out (by assumption)
      | exact four_f4 HBB.out (by assumption)
  · have C1 := hide (fun w => isAhead_any a at_ w false (iff_of_false (by simp) ha))
    have HA := hide ha
    clear ha
    go_enter Try.func46, Try.ntmps46
    go_wp2_with fail
    refine (C1.out _).mono ?_
    rintro e w1 ⟨rfl, rfl⟩
    go_wp2
    go_ret
    exact ⟨ret_bool (four_f3 HBB.out HA.out), (Below.refl _ _).alloc (Nat.le_refl _) _⟩

set_option maxRecDepth 100000 in
set_option maxHeartbeats 2000000 in
theorem part0 (k : Int) (n v : ByteArray) (a b at_ : Int) (w : World) (h1 : (k == 1) = false) (h2 : (k == 2) = false) (h3 : (k == 3) = false) (h4 : (k == 4) = false) (h5 : (k == 5) = false) :
    Calls Try.prog 46 #[.agg #[.int .i64 k, .string n, .string v, .int .i64 a, .int .i64 b], .int .i64 at_] w fun e w' => e = .returned (.bool false) ∧ Below w.heap.size w w' := by
  go_enter Try.func46, Try.ntmps46
  go_wp2
  go_ret
  exact ⟨rfl, (Below.refl _ _).alloc (Nat.le_refl _) _⟩

theorem okQ_kind {i : Nat} {p : Qr} (h : okQ i p) : p.k = 1 ∨ p.k = 2 ∨ p.k = 3 ∨ p.k = 4 ∨ p.k = 5 := by
  rcases h with h | h | h | h
  · exact .inl h.1
  · exact .inr (.inl h.1)
  · rcases h.1 with e | e
    · exact .inr (.inr (.inl e))
    · exact .inr (.inr (.inr (.inl e)))
  · exact .inr (.inr (.inr (.inr h.1)))
theorem ok1 {i : Nat} {n v : ByteArray} {a b : Int} : okQ i ⟨1, n, v, a, b⟩ ↔ n.toList = [] ∧ v.toList = [] ∧ a = 0 ∧ b = 0 := by simp [okQ, ba_nil]
theorem ok2 {i : Nat} {n v : ByteArray} {a b : Int} : okQ i ⟨2, n, v, a, b⟩ ↔ okL (n, v) ∧ a = 0 ∧ b = 0 := by simp [okQ]
theorem ok3 {i : Nat} {n v : ByteArray} {a b : Int} : okQ i ⟨3, n, v, a, b⟩ ↔ n.toList = [] ∧ v.toList = [] ∧ (0 ≤ a ∧ a < (i : Int)) ∧ (0 ≤ b ∧ b < (i : Int)) := by simp [okQ, ba_nil]
theorem ok4 {i : Nat} {n v : ByteArray} {a b : Int} : okQ i ⟨4, n, v, a, b⟩ ↔ n.toList = [] ∧ v.toList = [] ∧ (0 ≤ a ∧ a < (i : Int)) ∧ (0 ≤ b ∧ b < (i : Int)) := by simp [okQ, ba_nil]
theorem ok5 {i : Nat} {n v : ByteArray} {a b : Int} : okQ i ⟨5, n, v, a, b⟩ ↔ n.toList = [] ∧ v.toList = [] ∧ (0 ≤ a ∧ a < (i : Int)) ∧ b = 0 := by simp [okQ, ba_nil]
/-- A part, at its place. -/
theorem part_any (p : Qr) (i : Nat) (w : World) (hx : p.n.size ≤ 9223372036854775807) (hy : p.v.size ≤ 9223372036854775807) (bb : Bool) (hbb : bb = true ↔ okQ i p) :
    Calls Try.prog 46 #[svQ p, .int .i64 (i : Int)] w fun e w' => e = .returned (.bool bb) ∧ Below w.heap.size w w' := by
  obtain ⟨k, n, v, a, b⟩ := p
  by_cases h1 : k = 1
  · subst h1; exact part1 n v a b i w bb (hbb.trans ok1)
  by_cases h2 : k = 2
  · subst h2; exact part2 n v a b i w bb hx hy (hbb.trans ok2)
  by_cases h3 : k = 3
  · subst h3; exact part3 n v a b i w bb (hbb.trans ok3)
  by_cases h4 : k = 4
  · subst h4; exact part4 n v a b i w bb (hbb.trans ok4)
  by_cases h5 : k = 5
  · subst h5; exact part5 n v a b i w bb (hbb.trans ok5)
  obtain rfl : bb = false := bool_noT hbb (fun h => by rcases okQ_kind h with e | e | e | e | e <;> simp only at e <;> omega)
  exact part0 k n v a b i w (by simpa using h1) (by simpa using h2) (by simpa using h3) (by simpa using h4) (by simpa using h5)

set_option maxRecDepth 100000 in
set_option maxHeartbeats 2000000 in
theorem goodQuery_any (a : Option Addr) (l : List Qr) (n cap : Nat) (w : World) (hn : l.length = n) (hs : SlQ w a l) (hn2 : n ≤ 1048576) (hst : TxQ l) (bb : Bool) (hbb : bb = true ↔ GoodQ l) :
    Calls Try.prog 21 #[.slice a n cap] w fun e w' => e = .returned (.bool bb) ∧ Below w.heap.size w w' := by
  have HBB := hide hbb
  have HST := hide hst
  clear hbb hst
  by_cases h1 : (n : Int) < 1
  · have hno : ¬ GoodQ l := fun h => by have := h.1; omega
    have HNO := hide hno
    clear hs hn hno
    go_enter Try.func21, Try.ntmps21
    go_wp2
    go_ret
    exact ⟨by rw [bool_noT HBB.out HNO.out]; rfl, Below.refl _ _⟩
  by_cases h20 : 20 < (n : Int)
  · have hno : ¬ GoodQ l := fun h => by have := h.1; omega
    have HNO := hide hno
    clear hs hn hno
    go_enter Try.func21, Try.ntmps21
    go_wp2
    go_ret
    exact ⟨by rw [bool_noT HBB.out HNO.out]; rfl, Below.refl _ _⟩
  have HS := hide hs
  have HN := hide hn
  clear hs hn
  go_enter Try.func21, Try.ntmps21
  go_wp2
  go_loopw [15] (fun i wr => ∃ k : Nat, k ≤ n ∧ i = .int .i64 k ∧ Hid (∀ j, j < k → okQ j (l.getD j eQ)) ∧ Below w.heap.size w wr) (fun i _ => n - (intOf i).toNat)
  case atStart => exact ⟨0, Nat.zero_le _, rfl, fun j hj => absurd hj (Nat.not_lt_zero _), Below.refl _ _⟩
  case round =>
    obtain ⟨k, hk, rfl, HJ, hbel⟩ := hrel
    by_cases hlt : k < n
    · obtain ⟨b, off, rfl, hA0⟩ := HS.out k (by rw [HN.out]; exact hlt)
      have hA := hA0.base hbel (blk_lt hA0.k)
      have hsx := HST.out k (by rw [HN.out]; exact hlt)
      obtain ⟨p, hp⟩ : ∃ p, p = l.getD k eQ := ⟨_, rfl⟩
      rw [← hp] at hA hsx
      have hc0 := hA.k
      have hc1 := hA.n
      have hc2 := hA.v
      have hc3 := hA.a
      have hc4 := hA.b
      have hltI : (k : Int) < (n : Int) := by omega
      have HP := hide hp.symm
      have B0 := hide hbel
      have B1 := hide (hbel.alloc hbel.size (.cells #[.int .i64 p.k, .string p.n, .string p.v, .int .i64 p.a, .int .i64 p.b] 51))
      clear hA0 hA hp hbel
      by_cases hok : okQ k p
      · have C := hide (fun w => part_any p k w hsx.1 hsx.2 true (iff_of_true rfl hok))
        have HOK := hide hok
        clear hok hsx
        go_wp2_with fail
        refine (C.out _).mono ?_
        rintro e w1 ⟨rfl, hb1⟩
        have B2 := hide (B1.out.trans (hb1.mono B1.out.size))
        clear hb1
        go_wp2
        go_roundw
        case rel =>
          refine ⟨k + 1, by omega, by go_num, ?_, B2.out⟩
          intro j hj
          by_cases e : j = k
          · subst e; rw [HP.out]; exact HOK.out
          · exact HJ.out j (by omega)
        case measure => simp [intOf]; omega
      · have C := hide (fun w => part_any p k w hsx.1 hsx.2 false (iff_of_false (by simp) hok))
        have hno : ¬ GoodQ l := fun h => hok (by have := h.2 k (by rw [HN.out]; exact hlt); rw [HP.out] at this; exact this)
        have HNO := hide hno
        clear hok hsx hno
        go_wp2_with fail
        refine (C.out _).mono ?_
        rintro e w1 ⟨rfl, hb1⟩
        have B2 := hide (B1.out.trans (hb1.mono B1.out.size))
        clear hb1
        go_wp2
        go_ret
        exact ⟨by rw [bool_noT HBB.out HNO.out]; rfl, B2.out⟩
    · have hltI : ¬ (k : Int) < (n : Int) := by omega
      have hg : GoodQ l := ⟨by rw [HN.out]; omega, fun j hj => HJ.out j (by rw [HN.out] at hj; omega)⟩
      have HG := hide hg
      clear hg
      go_wp2
      go_ret
      exact ⟨by rw [HBB.out.2 HG.out]; rfl, hbel⟩
end Go.Proofs.Ythicdnkngpiccab.L4
