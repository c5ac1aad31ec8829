/-
  Contracts: spec.l5Part, spec.GoodForm: whether a form is good.
-/
import Derived.Test.YtkdiffpbljohkayL5Good2
import Derived.Test.YtkdiffpbljohkayL4In
namespace Go.Proofs.Ytkdiffpbljohkay.L5
open Go.RowKit L1 L4
set_option linter.unusedVariables false

set_option maxRecDepth 100000 in
set_option maxHeartbeats 4000000 in
theorem l5Part_any (p : Pr) (i : Nat) (w : World) (hx : p.t.size ≤ 9223372036854775807) (hi : i ≤ 1048576) (bb : Bool) (hbb : bb = true ↔ okP i p) :
    Calls Try.prog 54 #[svP p, .int .i64 (i : Int)] w fun e w' => e = .returned (.bool bb) ∧ Below w.heap.size w w' := by
  obtain ⟨pk, pt, pa, pb⟩ := p
  simp only at hx
  have HBB := hide hbb
  have HB0 : Hid (Below w.heap.size w (w.alloc (.cells #[.int .i64 pk, .string pt, .int .i64 pa, .int .i64 pb] 55))) := hide ((Below.refl _ _).alloc (Nat.le_refl _) _)
  have hi0 : -1 ≤ (i : Int) - 1 := by omega
  clear hbb
  by_cases h5 : pk = 5 ∨ pk = 6
  · have HQ := hide (HBB.out.trans (ok5 h5))
    have C1 := hide (fun w => l5Two_any pk w true (iff_of_true rfl h5))
    by_cases ht : pt.toList = []
    · by_cases ha : 0 ≤ pa ∧ pa < (i : Int)
      · have CA := hide (fun w => l1In_any pa 0 ((i : Int) - 1) w true (iff_of_true rfl (by omega)))
        by_cases hb : 0 ≤ pb ∧ pb < (i : Int)
        · have CB := hide (fun w => l1In_any pb 0 ((i : Int) - 1) w true (iff_of_true rfl (by omega)))
          have E := hide (HQ.out.2 ⟨ht, ha, hb⟩)
          clear ha hb h5
          go_enter Try.func54, Try.ntmps54
          go_wp2_with fail
          refine (C1.out _).mono ?_
          rintro e w1 ⟨rfl, rfl⟩
          go_wp2_with fail
          refine (CA.out _).mono ?_
          rintro e w1 ⟨rfl, rfl⟩
          go_wp2_with fail
          refine (CB.out _).mono ?_
          rintro e w1 ⟨rfl, rfl⟩
          go_wp2
          go_ret
          exact ⟨ret_bool E.out.symm, HB0.out⟩
        · have CB := hide (fun w => l1In_any pb 0 ((i : Int) - 1) w false (iff_of_false (by simp) (by omega)))
          have E := hide (bool_noT HQ.out (fun h => hb h.2.2))
          clear ha hb h5
          go_enter Try.func54, Try.ntmps54
          go_wp2_with fail
          refine (C1.out _).mono ?_
          rintro e w1 ⟨rfl, rfl⟩
          go_wp2_with fail
          refine (CA.out _).mono ?_
          rintro e w1 ⟨rfl, rfl⟩
          go_wp2_with fail
          refine (CB.out _).mono ?_
          rintro e w1 ⟨rfl, rfl⟩
          go_wp2
          go_ret
          exact ⟨ret_bool E.out.symm, HB0.out⟩
      · have CA := hide (fun w => l1In_any pa 0 ((i : Int) - 1) w false (iff_of_false (by simp) (by omega)))
        have E := hide (bool_noT HQ.out (fun h => ha h.2.1))
        clear ha h5
        go_enter Try.func54, Try.ntmps54
        go_wp2_with fail
        refine (C1.out _).mono ?_
        rintro e w1 ⟨rfl, rfl⟩
        go_wp2_with fail
        refine (CA.out _).mono ?_
        rintro e w1 ⟨rfl, rfl⟩
        go_wp2
        go_ret
        exact ⟨ret_bool E.out.symm, HB0.out⟩
    · have E := hide (bool_noT HQ.out (fun h => ht h.1))
      clear h5
      go_enter Try.func54, Try.ntmps54
      go_wp2_with fail
      refine (C1.out _).mono ?_
      rintro e w1 ⟨rfl, rfl⟩
      go_wp2
      go_ret
      exact ⟨ret_bool E.out.symm, HB0.out⟩
  have C1 := hide (fun w => l5Two_any pk w false (iff_of_false (by simp) h5))
  by_cases h7 : pk = 7 ∨ pk = 8
  · have HQ := hide (HBB.out.trans (ok7 h7))
    have C2 := hide (fun w => l5One_any pk w true (iff_of_true rfl h7))
    by_cases ht : pt.toList = []
    · by_cases ha : 0 ≤ pa ∧ pa < (i : Int)
      · have CA := hide (fun w => l1In_any pa 0 ((i : Int) - 1) w true (iff_of_true rfl (by omega)))
        have E : Hid ((pb == 0) = bb) := hide (by
          by_cases hb : pb = 0
          · rw [HQ.out.2 ⟨ht, ha, hb⟩]; simpa using hb
          · rw [bool_noT HQ.out (fun h => hb h.2.2)]; simpa using hb)
        clear ha h5 h7
        go_enter Try.func54, Try.ntmps54
        go_wp2_with fail
        refine (C1.out _).mono ?_
        rintro e w1 ⟨rfl, rfl⟩
        go_wp2_with fail
        refine (C2.out _).mono ?_
        rintro e w1 ⟨rfl, rfl⟩
        go_wp2_with fail
        refine (CA.out _).mono ?_
        rintro e w1 ⟨rfl, rfl⟩
        go_wp2
        go_ret
        exact ⟨ret_bool E.out, HB0.out⟩
      · have CA := hide (fun w => l1In_any pa 0 ((i : Int) - 1) w false (iff_of_false (by simp) (by omega)))
        have E := hide (bool_noT HQ.out (fun h => ha h.2.1))
        clear ha h5 h7
        go_enter Try.func54, Try.ntmps54
        go_wp2_with fail
        refine (C1.out _).mono ?_
        rintro e w1 ⟨rfl, rfl⟩
        go_wp2_with fail
        refine (C2.out _).mono ?_
        rintro e w1 ⟨rfl, rfl⟩
        go_wp2_with fail
        refine (CA.out _).mono ?_
        rintro e w1 ⟨rfl, rfl⟩
        go_wp2
        go_ret
        exact ⟨ret_bool E.out.symm, HB0.out⟩
    · have E := hide (bool_noT HQ.out (fun h => ht h.1))
      clear h5 h7
      go_enter Try.func54, Try.ntmps54
      go_wp2_with fail
      refine (C1.out _).mono ?_
      rintro e w1 ⟨rfl, rfl⟩
      go_wp2_with fail
      refine (C2.out _).mono ?_
      rintro e w1 ⟨rfl, rfl⟩
      go_wp2
      go_ret
      exact ⟨ret_bool E.out.symm, HB0.out⟩
  have C2 := hide (fun w => l5One_any pk w false (iff_of_false (by simp) h7))
  by_cases h3 : pk = 3
  · subst h3
    have HQ := hide (HBB.out.trans ok3)
    clear h5 h7
    by_cases h1 : (pt.size : Int) = 1
    · have hs1 : pt.size = 1 := by omega
      by_cases hl : okc (ltr pt)
      · have C3 := hide (fun w => l5Letters_any pt w hx true (iff_of_true rfl ((let_one hs1).2 hl)))
        by_cases ha : pa = 0
        · subst ha
          have E : Hid ((pb == 0) = bb) := hide (by
            by_cases hb : pb = 0
            · rw [HQ.out.2 ⟨⟨hs1, hl⟩, rfl, hb⟩]; simpa using hb
            · rw [bool_noT HQ.out (fun h => hb h.2.2)]; simpa using hb)
          clear hl hs1
          go_enter Try.func54, Try.ntmps54
          go_wp2_with fail
          refine (C1.out _).mono ?_
          rintro e w1 ⟨rfl, rfl⟩
          go_wp2_with fail
          refine (C2.out _).mono ?_
          rintro e w1 ⟨rfl, rfl⟩
          go_wp2_with fail
          refine (C3.out _).mono ?_
          rintro e w1 ⟨rfl, rfl⟩
          go_wp2
          go_ret
          exact ⟨ret_bool E.out, HB0.out⟩
        · have E := hide (bool_noT HQ.out (fun h => ha h.2.1))
          have hab : (pa == 0) = false := by simpa using ha
          clear hl hs1 ha
          go_enter Try.func54, Try.ntmps54
          go_wp2_with fail
          refine (C1.out _).mono ?_
          rintro e w1 ⟨rfl, rfl⟩
          go_wp2_with fail
          refine (C2.out _).mono ?_
          rintro e w1 ⟨rfl, rfl⟩
          go_wp2_with fail
          refine (C3.out _).mono ?_
          rintro e w1 ⟨rfl, rfl⟩
          go_wp2
          go_ret
          exact ⟨ret_bool E.out.symm, HB0.out⟩
      · have C3 := hide (fun w => l5Letters_any pt w hx false (iff_of_false (by simp) (fun h => hl ((let_one hs1).1 h))))
        have E := hide (bool_noT HQ.out (fun h => hl h.1.2))
        clear hl hs1
        go_enter Try.func54, Try.ntmps54
        go_wp2_with fail
        refine (C1.out _).mono ?_
        rintro e w1 ⟨rfl, rfl⟩
        go_wp2_with fail
        refine (C2.out _).mono ?_
        rintro e w1 ⟨rfl, rfl⟩
        go_wp2_with fail
        refine (C3.out _).mono ?_
        rintro e w1 ⟨rfl, rfl⟩
        go_wp2
        go_ret
        exact ⟨ret_bool E.out.symm, HB0.out⟩
    · have E := hide (bool_noT HQ.out (fun h => h1 (by have := h.1.1; omega)))
      have h1b : ((pt.size : Int) == 1) = false := by simpa using h1
      clear h1
      go_enter Try.func54, Try.ntmps54
      go_wp2_with fail
      refine (C1.out _).mono ?_
      rintro e w1 ⟨rfl, rfl⟩
      go_wp2_with fail
      refine (C2.out _).mono ?_
      rintro e w1 ⟨rfl, rfl⟩
      go_wp2
      go_ret
      exact ⟨ret_bool E.out.symm, HB0.out⟩
  have e3 : (pk == 3) = false := by simpa using h3
  by_cases h1 : 1 ≤ pk ∧ pk ≤ 4
  · have C3 := hide (fun w => l1In_any pk 1 4 w true (iff_of_true rfl h1))
    have HQ := hide (HBB.out.trans (ok1 (by omega)))
    by_cases ht : pt.toList = []
    · by_cases ha : pa = 0
      · subst ha
        have E : Hid ((pb == 0) = bb) := hide (by
          by_cases hb : pb = 0
          · rw [HQ.out.2 ⟨ht, rfl, hb⟩]; simpa using hb
          · rw [bool_noT HQ.out (fun h => hb h.2.2)]; simpa using hb)
        clear h1 h3 h5 h7
        go_enter Try.func54, Try.ntmps54
        go_wp2_with fail
        refine (C1.out _).mono ?_
        rintro e w1 ⟨rfl, rfl⟩
        go_wp2_with fail
        refine (C2.out _).mono ?_
        rintro e w1 ⟨rfl, rfl⟩
        go_wp2_with fail
        refine (C3.out _).mono ?_
        rintro e w1 ⟨rfl, rfl⟩
        go_wp2
        go_ret
        exact ⟨ret_bool E.out, HB0.out⟩
      · have E := hide (bool_noT HQ.out (fun h => ha h.2.1))
        have hab : (pa == 0) = false := by simpa using ha
        clear h1 h3 h5 h7 ha
        go_enter Try.func54, Try.ntmps54
        go_wp2_with fail
        refine (C1.out _).mono ?_
        rintro e w1 ⟨rfl, rfl⟩
        go_wp2_with fail
        refine (C2.out _).mono ?_
        rintro e w1 ⟨rfl, rfl⟩
        go_wp2_with fail
        refine (C3.out _).mono ?_
        rintro e w1 ⟨rfl, rfl⟩
        go_wp2
        go_ret
        exact ⟨ret_bool E.out.symm, HB0.out⟩
    · have E := hide (bool_noT HQ.out (fun h => ht h.1))
      clear h1 h3 h5 h7
      go_enter Try.func54, Try.ntmps54
      go_wp2_with fail
      refine (C1.out _).mono ?_
      rintro e w1 ⟨rfl, rfl⟩
      go_wp2_with fail
      refine (C2.out _).mono ?_
      rintro e w1 ⟨rfl, rfl⟩
      go_wp2_with fail
      refine (C3.out _).mono ?_
      rintro e w1 ⟨rfl, rfl⟩
      go_wp2
      go_ret
      exact ⟨ret_bool E.out.symm, HB0.out⟩
  · have C3 := hide (fun w => l1In_any pk 1 4 w false (iff_of_false (by simp) h1))
    have E := hide (bool_noT HBB.out (fun h => by have := okP_kind h; simp only at this; omega))
    clear h1 h3 h5 h7
    go_enter Try.func54, Try.ntmps54
    go_wp2_with fail
    refine (C1.out _).mono ?_
    rintro e w1 ⟨rfl, rfl⟩
    go_wp2_with fail
    refine (C2.out _).mono ?_
    rintro e w1 ⟨rfl, rfl⟩
    go_wp2_with fail
    refine (C3.out _).mono ?_
    rintro e w1 ⟨rfl, rfl⟩
    go_wp2
    go_ret
    exact ⟨ret_bool E.out.symm, HB0.out⟩

/-- A list of counts in new memory. -/
abbrev rowN (g m : Nat) (ys : List Int) (w : World) (base : Nat) : Prop := w.ownsRow base 3 1 (.slice (some ⟨g, 0, none⟩) m m) m (ys.map (Value.int .i64))
set_option maxRecDepth 100000 in
set_option maxHeartbeats 8000000 in
theorem specGoodForm_any (a : Option Addr) (l : List Pr) (n cap : Nat) (w : World) (hn : l.length = n) (hs : SlP w a l) (hn2 : n ≤ 1048576) (hst : TxP l) (bb : Bool) (hbb : bb = true ↔ GoodF l) :
    Calls Try.prog 30 #[.slice a n cap] w fun e w' => e = .returned (.bool bb) ∧ Below w.heap.size w w' := by
  obtain ⟨i0, hi, hz0, hz1, hz2⟩ := info_parts info_int
  obtain ⟨w1, hmk, hown1, hg1⟩ := run_make_full (P := Try.prog) w w.heap.size 80 3 i0 (.int .i64 0) 1 Try.underlying80 hi hz0 hz1 .i64 .i64 n (by rw [hz2]; omega) (by unfold maxLen; omega) (Nat.le_refl _)
  rw [made_ints] at hown1
  have hb1 : Below w.heap.size w w1 := (Below.refl _ _).grown hg1 (Nat.le_refl _) (fun k hk => by cases hk)
  have HZ1 : Hid (w.heap.size < w1.heap.size) := hide (hown1.lt _ rfl).2
  have HNEW := hide hown1
  have HBN := hide hb1
  have HBB := hide hbb
  have HST := hide hst
  have HS := hide hs
  have HN := hide hn
  clear hown1 hg1 hs hn hbb hst hb1 hi hz0 hz1 hz2
  go_enter Try.func30, Try.ntmps30
  go_wp2
  go_loopw [13] (fun i wr => ∃ (k : Nat) (ys : List Int), k ≤ n ∧ i = .int .i64 k ∧ Hid (∀ j, j < k → okP j (l.getD j eP)) ∧ Hid (Cnt n (fun i => cnt (l.take k) i) ys) ∧ Hid (rowN w.heap.size n ys wr w.heap.size) ∧ Hid (Below w.heap.size w wr) ∧ Hid (w.heap.size < wr.heap.size)) (fun i _ => n - (intOf i).toNat)
  case atStart => exact ⟨0, List.replicate n 0, Nat.zero_le _, rfl, fun j hj => absurd hj (Nat.not_lt_zero _), ⟨by simp, fun i hi => by rw [rep0]; simp [cnt]⟩, HNEW.out, HBN.out, HZ1⟩
  case round =>
    obtain ⟨k, ys, hk, rfl, HJ, HY, HR, HB, HZ⟩ := hrel
    by_cases hlt : k < n
    · obtain ⟨b, off, rfl, hA0⟩ := HS.out k (by rw [HN.out]; exact hlt)
      have hA := hA0.base HB.out (blk_lt hA0.k)
      have hsx := HST.out k (by rw [HN.out]; exact hlt)
      have hstep : ∀ i : Int, cnt (l.take (k + 1)) i = cnt (l.take k) i + nm (l.getD k eP) i := fun i => by rw [take_snoc l k (by rw [HN.out]; exact hlt), cnt_snoc]
      obtain ⟨⟨pk, pt, pa, pb⟩, hp⟩ : ∃ p, p = l.getD k eP := ⟨_, rfl⟩
      rw [← hp] at hA hsx hstep
      simp only at hsx
      have hc0 := hA.k
      have hc1 := hA.t
      have hc2 := hA.a
      have hc3 := hA.b
      simp only at hc0 hc1 hc2 hc3
      have hltI : (k : Int) < (n : Int) := by omega
      have HP := hide hp.symm
      have HSTEP := hide hstep
      have HSZ : Hid (wr.heap.size < (wr.alloc (.cells #[.int .i64 pk, .string pt, .int .i64 pa, .int .i64 pb] 55)).heap.size) := by refine hide ?_; simp
      have HPB : Hid (AtP (wr.alloc (.cells #[.int .i64 pk, .string pt, .int .i64 pa, .int .i64 pb] 55)) wr.heap.size 0 ⟨pk, pt, pa, pb⟩) := by
        refine hide ⟨?_, ?_, ?_, ?_⟩ <;> simp
      have B1 := hide (HB.out.alloc HB.out.size (.cells #[.int .i64 pk, .string pt, .int .i64 pa, .int .i64 pb] 55))
      have R1 := hide (HR.out.alloc (.cells #[.int .i64 pk, .string pt, .int .i64 pa, .int .i64 pb] 55))
      clear hA0 hA hp hstep
      by_cases hok : okP k ⟨pk, pt, pa, pb⟩
      · have C := hide (fun w => l5Part_any ⟨pk, pt, pa, pb⟩ k w hsx (by omega) true (iff_of_true rfl hok))
        have HJ2 : Hid (∀ j, j < k + 1 → okP j (l.getD j eP)) := by
          intro i hi
          by_cases e : i = k
          · subst e; rw [HP.out]; exact hok
          · exact HJ.out i (by omega)
        go_wp2_with fail
        refine (C.out _).mono ?_
        rintro e w2 ⟨rfl, hb2⟩
        have P1 := HPB.out.base hb2 HSZ.out
        have d0 := P1.k
        have d1 := P1.t
        have d2 := P1.a
        have d3 := P1.b
        simp only [Nat.zero_add] at d0 d1 d2 d3
        have B2 := hide (B1.out.trans (hb2.mono B1.out.size))
        have R2 := hide (own_belowT R1.out hb2)
        have Z2 : Hid (w.heap.size < w2.heap.size) := hide (by have h1 := HZ.out; have h2 := HSZ.out; have h3 := hb2.size; omega)
        have hne : ¬ wr.heap.size = w.heap.size := by have := HZ.out; omega
        clear hb2 P1 hc0 hc1 hc2 hc3
        have hrange : ∀ (zs : List Int) (q : Nat) (f : Int → Int), zs.getD q 0 = cnt (l.take k) (q : Int) + f (q : Int) → 0 ≤ f (q : Int) → f (q : Int) ≤ 1 → 0 ≤ zs.getD q 0 ∧ zs.getD q 0 ≤ 100000000 := fun zs q f e h0 h1 => by
          have h2 := cnt_range (l.take k) (q : Int)
          simp only [List.length_take] at h2
          omega
        have HRG := hide hrange
        clear hrange
        by_cases h5 : pk = 5 ∨ pk = 6
        · have hk5 := (ok5 h5).1 hok
          obtain ⟨qa, hqa⟩ : ∃ q : Nat, pa = (q : Int) := ⟨pa.toNat, by omega⟩
          obtain ⟨qb, hqb⟩ : ∃ q : Nat, pb = (q : Int) := ⟨pb.toNat, by omega⟩
          subst hqa
          subst hqb
          have hqan : qa < n := by omega
          have hqbn : qb < n := by omega
          have hqaI : (qa : Int) < (n : Int) := by omega
          have hqbI : (qb : Int) < (n : Int) := by omega
          have C5 := hide (fun w => l5Two_any pk w true (iff_of_true rfl h5))
          have hnm := nm_two (p := ⟨pk, pt, (qa : Int), (qb : Int)⟩) h5
          have hz : ys.getD qb 0 = cnt (l.take k) (qb : Int) + 0 := (show ys.getD qb 0 = cnt (l.take k) (qb : Int) from HY.out.2 qb hqbn).trans (by omega)
          have hzr := HRG.out ys qb (fun _ => 0) hz (by omega) (by omega)
          have hcz := R2.out.cellAt qb (by omega)
          rw [ints_get (by rw [HY.out.1]; exact hqbn)] at hcz
          have hfr := R2.out.frozenAt qb
          have hst := R2.out.stored qb (.int .i64 (ys.getD qb 0 + 1))
          have hbump := HY.out.bump (qb : Int) (by omega) (g := fun i => cnt (l.take k) i + (if (qb : Int) = i then 1 else 0)) (fun i => rfl)
          simp only [Int.toNat_natCast] at hbump
          have R3 : Hid (rowN w.heap.size n (ys.set qb (ys.getD qb 0 + 1)) (w2.setCell ⟨w.heap.size, qb, none⟩ (.int .i64 (ys.getD qb 0 + 1))) w.heap.size) := hide (by rw [rowN, List.map_set]; exact hst.1)
          have B3 := hide (B2.out.setCell (p := ⟨w.heap.size, qb, none⟩) (Nat.le_refl _) (.int .i64 (ys.getD qb 0 + 1)))
          have Z3 : Hid (w.heap.size < (w2.setCell ⟨w.heap.size, qb, none⟩ (.int .i64 (ys.getD qb 0 + 1))).heap.size) := by refine hide ?_; simpa using Z2.out
          have HBUMP := hide hbump
          obtain ⟨c, hc⟩ : ∃ c, c = ys.getD qb 0 := ⟨_, rfl⟩
          rw [← hc] at hcz hzr R3 B3 Z3 HBUMP
          obtain ⟨hz0, hz1⟩ := hzr
          have HNM := hide hnm
          have HC := hide hc
          obtain ⟨zs, hzs⟩ : ∃ zs, zs = ys.set qb (c + 1) := ⟨_, rfl⟩
          rw [← hzs] at R3 HBUMP
          have hya : zs.getD qa 0 = cnt (l.take k) (qa : Int) + (if (qb : Int) = (qa : Int) then 1 else 0) := HBUMP.out.2 qa hqan
          have hyr := HRG.out zs qa (fun _ => if (qb : Int) = (qa : Int) then 1 else 0) hya (by split <;> omega) (by split <;> omega)
          have hcy := R3.out.cellAt qa (by omega)
          rw [ints_get (by rw [HBUMP.out.1]; exact hqan)] at hcy
          have hfy := R3.out.frozenAt qa
          have hsy := R3.out.stored qa (.int .i64 (zs.getD qa 0 + 1))
          have hbump2 := HBUMP.out.bump (qa : Int) (by omega) (g := fun i => cnt (l.take (k + 1)) i) (fun i => by rw [HSTEP.out, HNM.out]; simp only; omega)
          simp only [Int.toNat_natCast] at hbump2
          have R4 : Hid (rowN w.heap.size n (zs.set qa (zs.getD qa 0 + 1)) ((w2.setCell ⟨w.heap.size, qb, none⟩ (.int .i64 (c + 1))).setCell ⟨w.heap.size, qa, none⟩ (.int .i64 (zs.getD qa 0 + 1))) w.heap.size) := hide (by rw [rowN, List.map_set]; exact hsy.1)
          have B4 := hide (B3.out.setCell (p := ⟨w.heap.size, qa, none⟩) (Nat.le_refl _) (.int .i64 (zs.getD qa 0 + 1)))
          have Z4 : Hid (w.heap.size < ((w2.setCell ⟨w.heap.size, qb, none⟩ (.int .i64 (c + 1))).setCell ⟨w.heap.size, qa, none⟩ (.int .i64 (zs.getD qa 0 + 1))).heap.size) := by refine hide ?_; simpa using Z2.out
          have HBUMP2 := hide hbump2
          obtain ⟨y, hy⟩ : ∃ y, y = zs.getD qa 0 := ⟨_, rfl⟩
          rw [← hy] at hcy hyr R4 B4 Z4 HBUMP2
          obtain ⟨hy0, hy1⟩ := hyr
          have HKEEP := hide (And.intro hcy hfy)
          clear hc hbump hst hz hnm hzs hya hsy hbump2 hy hok hk5 hcy hfy h5
          go_wp2_with fail
          refine (C5.out _).mono ?_
          rintro e w3 ⟨rfl, rfl⟩
          go_wp2_with fail
          refine (C5.out _).mono ?_
          rintro e w3 ⟨rfl, rfl⟩
          have hcy := HKEEP.out.1
          have hfy := HKEEP.out.2
          go_wp2
          go_roundw
          case rel => exact ⟨k + 1, _, by omega, by go_num, HJ2, HBUMP2, R4, B4, Z4⟩
          case measure => simp [intOf]; omega
        have C5 := hide (fun w => l5Two_any pk w false (iff_of_false (by simp) h5))
        by_cases h7 : pk = 7 ∨ pk = 8
        · have hk7 := (ok7 h7).1 hok
          obtain ⟨qa, hqa⟩ : ∃ q : Nat, pa = (q : Int) := ⟨pa.toNat, by omega⟩
          subst hqa
          have hqan : qa < n := by omega
          have hqaI : (qa : Int) < (n : Int) := by omega
          have C7 := hide (fun w => l5One_any pk w true (iff_of_true rfl h7))
          have hnm := nm_one (p := ⟨pk, pt, (qa : Int), pb⟩) h7
          have hz : ys.getD qa 0 = cnt (l.take k) (qa : Int) + 0 := (show ys.getD qa 0 = cnt (l.take k) (qa : Int) from HY.out.2 qa hqan).trans (by omega)
          have hzr := HRG.out ys qa (fun _ => 0) hz (by omega) (by omega)
          have hcz := R2.out.cellAt qa (by omega)
          rw [ints_get (by rw [HY.out.1]; exact hqan)] at hcz
          have hfr := R2.out.frozenAt qa
          have hst := R2.out.stored qa (.int .i64 (ys.getD qa 0 + 1))
          have hbump := HY.out.bump (qa : Int) (by omega) (g := fun i => cnt (l.take (k + 1)) i) (fun i => by rw [HSTEP.out, hnm])
          simp only [Int.toNat_natCast] at hbump
          have R3 : Hid (rowN w.heap.size n (ys.set qa (ys.getD qa 0 + 1)) (w2.setCell ⟨w.heap.size, qa, none⟩ (.int .i64 (ys.getD qa 0 + 1))) w.heap.size) := hide (by rw [rowN, List.map_set]; exact hst.1)
          have B3 := hide (B2.out.setCell (p := ⟨w.heap.size, qa, none⟩) (Nat.le_refl _) (.int .i64 (ys.getD qa 0 + 1)))
          have Z3 : Hid (w.heap.size < (w2.setCell ⟨w.heap.size, qa, none⟩ (.int .i64 (ys.getD qa 0 + 1))).heap.size) := by refine hide ?_; simpa using Z2.out
          have HBUMP := hide hbump
          obtain ⟨c, hc⟩ : ∃ c, c = ys.getD qa 0 := ⟨_, rfl⟩
          rw [← hc] at hcz hzr R3 B3 Z3 HBUMP
          obtain ⟨hz0, hz1⟩ := hzr
          clear hc hbump hst hz hnm hok hk7 h5 h7
          go_wp2_with fail
          refine (C5.out _).mono ?_
          rintro e w3 ⟨rfl, rfl⟩
          go_wp2_with fail
          refine (C5.out _).mono ?_
          rintro e w3 ⟨rfl, rfl⟩
          go_wp2_with fail
          refine (C7.out _).mono ?_
          rintro e w3 ⟨rfl, rfl⟩
          go_wp2
          go_roundw
          case rel => exact ⟨k + 1, _, by omega, by go_num, HJ2, HBUMP, R3, B3, Z3⟩
          case measure => simp [intOf]; omega
        have C7 := hide (fun w => l5One_any pk w false (iff_of_false (by simp) h7))
        have hnm : ∀ i, nm ⟨pk, pt, pa, pb⟩ i = 0 := nm_no (p := ⟨pk, pt, pa, pb⟩) (by have := okP_kind hok; simp only at this ⊢; omega)
        have HY2 : Hid (Cnt n (fun i => cnt (l.take (k + 1)) i) ys) := hide ⟨HY.out.1, fun i hi => by
          have h : ys.getD i 0 = cnt (l.take k) (i : Int) := HY.out.2 i hi
          show _ = cnt (l.take (k + 1)) (i : Int)
          rw [h, HSTEP.out, hnm]
          omega⟩
        clear hok h5 h7 hnm
        go_wp2_with fail
        refine (C5.out _).mono ?_
        rintro e w3 ⟨rfl, rfl⟩
        go_wp2_with fail
        refine (C5.out _).mono ?_
        rintro e w3 ⟨rfl, rfl⟩
        go_wp2_with fail
        refine (C7.out _).mono ?_
        rintro e w3 ⟨rfl, rfl⟩
        go_wp2
        go_roundw
        case rel => exact ⟨k + 1, ys, by omega, by go_num, HJ2, HY2, R2, B2, Z2⟩
        case measure => simp [intOf]; omega
      · have C := hide (fun w => l5Part_any ⟨pk, pt, pa, pb⟩ k w hsx (by omega) false (iff_of_false (by simp) hok))
        have hno : ¬ GoodF l := fun h => hok (by have := h.2.1 k (by rw [HN.out]; exact hlt); rw [HP.out] at this; exact this)
        have HNO := hide hno
        clear hok hsx hno
        go_wp2_with fail
        refine (C.out _).mono ?_
        rintro e w1 ⟨rfl, hb1⟩
        have B2 := hide (B1.out.trans (hb1.mono B1.out.size))
        clear hb1
        go_wp2
        go_ret
        exact ⟨by rw [bool_noT HBB.out HNO.out]; rfl, B2.out⟩
    · obtain rfl : k = n := by omega
      have hltI : ¬ (k : Int) < (k : Int) := by omega
      have HG : Hid (GoodF l ↔ (∀ i : Nat, i + 1 < k → ys.getD i 0 = 1) ∧ 1 ≤ k ∧ k ≤ 24) := hide (by
        have hN := HN.out
        have hY : ∀ i : Nat, i + 1 < k → ys.getD i 0 = cnt l (i : Int) := fun i hi => by
          rw [HY.out.2 i (by omega), ← hN, List.take_length]
        constructor
        · intro h
          refine ⟨fun i hi => ?_, by have := h.1; omega⟩
          rw [hY i hi]
          exact h.2.2 i (by omega)
        · intro h
          exact ⟨by omega, fun j hj => HJ.out j (by omega), fun i hi => by rw [← hY i (by omega)]; exact h.1 i (by omega)⟩)
      go_wp2
      go_loopw [50] (fun i wr' => ∃ (j : Nat), j ≤ k ∧ i = .int .i64 j ∧ wr' = wr ∧ Hid (∀ i : Nat, i < j → i + 1 < k → ys.getD i 0 = 1)) (fun i _ => k - (intOf i).toNat)
      case atStart => exact ⟨0, Nat.zero_le _, rfl, by first | rfl | trivial, fun j hj => absurd hj (Nat.not_lt_zero _)⟩
      case round =>
        obtain ⟨j, hj, rfl, rfl, HD⟩ := hrel
        by_cases hjm : j < k
        · have hjI : (j : Int) < (k : Int) := by omega
          have hcz := HR.out.cellAt j (by omega)
          rw [ints_get (by rw [HY.out.1]; omega)] at hcz
          obtain ⟨c, hc⟩ : ∃ c, c = ys.getD j 0 := ⟨_, rfl⟩
          rw [← hc] at hcz
          have HC := hide hc
          clear hc
          by_cases hl : (j : Int) < (k : Int) - 1
          · by_cases h1 : c = 1
            · subst h1
              go_wp2
              go_roundw
              case rel =>
                refine ⟨j + 1, by omega, by go_num, by first | rfl | trivial, ?_⟩
                intro i hi hi2
                by_cases e : i = j
                · subst e; exact HC.out.symm
                · exact HD.out i (by omega) hi2
              case measure => simp [intOf]; omega
            · have E := hide (bool_noT (HBB.out.trans HG.out) (fun h => h1 (by rw [HC.out]; exact h.1 j (by omega))))
              have h1b : (c == 1) = false := by simpa using h1
              clear h1
              go_wp2
              go_ret
              exact ⟨by rw [E.out]; rfl, HB.out⟩
          · go_wp2
            go_roundw
            case rel =>
              refine ⟨j + 1, by omega, by go_num, by first | rfl | trivial, ?_⟩
              intro i hi hi2
              exact HD.out i (by omega) hi2
            case measure => simp [intOf]; omega
        · have hjI : ¬ (j : Int) < (k : Int) := by omega
          have hgg : GoodF l ↔ 1 ≤ (k : Int) ∧ (k : Int) ≤ 24 := HG.out.trans ⟨fun h => by have := h.2; omega, fun h => ⟨fun i hi => HD.out i (by omega) hi, by omega⟩⟩
          have C := hide (fun w => l1In_any (k : Int) 1 24 w bb (HBB.out.trans hgg))
          clear hgg
          go_wp2_with fail
          refine (C.out _).mono ?_
          rintro e w3 ⟨rfl, rfl⟩
          go_wp2
          go_ret
          exact ⟨rfl, HB.out⟩
end Go.Proofs.Ytkdiffpbljohkay.L5
