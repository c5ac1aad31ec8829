/-
  Contracts: spec.l4Label, spec.GoodQuery: whether a query is good.
-/
import Derived.Test.YthicdnkngpiccabL4QuGood
import Derived.Test.YthicdnkngpiccabL4In
import Derived.Test.YthicdnkngpiccabL3SpecGood
namespace Go.Proofs.Ythicdnkngpiccab.L4
open Go.RowKit L1 L3
set_option linter.unusedVariables false

theorem below_eq {w w' : World} (h : w = w') : Below w.heap.size w w' := by rw [h]; exact Below.refl _ _
open Classical in
set_option maxRecDepth 100000 in
set_option maxHeartbeats 400000 in
theorem l4Label_any (x y : ByteArray) (w : World) (hx : x.size ≤ 9223372036854775807) (hy : y.size ≤ 9223372036854775807) (bb : Bool) (hbb : bb = true ↔ okL (x, y)) :
    Calls Try.prog 47 #[.agg #[.string x, .string y]] w fun e w' => e = .returned (.bool bb) ∧ Below w.heap.size w w' := by
  by_cases h1 : Word false x
  · have C1 := hide (fun w => l3Name_any x false w hx true (by simp [h1]))
    have C2 := hide (fun w => l3Name_any y true w hy bb (by rw [hbb]; exact ⟨fun h => h.2, fun h => ⟨h1, h⟩⟩))
    clear hbb h1 hx hy
    have hb0 : Below w.heap.size w (w.alloc (.cells #[.string x, .string y] 44)) := (Below.refl _ _).alloc (Nat.le_refl _) _
    have c1 : (w.alloc (.cells #[.string x, .string y] 44)).cell? ⟨w.heap.size, 1, none⟩ = some (.string y) := by simp
    have c0 : (w.alloc (.cells #[.string x, .string y] 44)).cell? ⟨w.heap.size, 0, none⟩ = some (.string x) := by simp
    go_enter Try.func47, Try.ntmps47
    go_wp2_with fail
    refine (C1.out _).mono ?_
    rintro e w1 ⟨rfl, hq1⟩
    have hb1 := below_eq hq1
    clear hq1
    have d1 : w1.cell? ⟨w.heap.size, 1, none⟩ = some (.string y) := (hb1.cell (p := ⟨w.heap.size, 1, none⟩) (by simp)).trans c1
    have B1 := hide (hb0.trans (hb1.mono hb0.size))
    clear hb1 hb0 c0 c1
    go_wp2_with fail
    refine (C2.out _).mono ?_
    rintro e w2 ⟨rfl, hq2⟩
    have hb2 := below_eq hq2
    clear hq2
    have B2 := hide (B1.out.trans (hb2.mono B1.out.size))
    clear hb2
    go_wp2
    go_ret
    exact ⟨rfl, B2.out⟩
  · have C1 := hide (fun w => l3Name_any x false w hx false (by simp [h1]))
    obtain rfl : bb = false := bool_noT hbb (fun h => h1 h.1)
    clear hbb h1 hx hy
    have hb0 : Below w.heap.size w (w.alloc (.cells #[.string x, .string y] 44)) := (Below.refl _ _).alloc (Nat.le_refl _) _
    have HB0 := hide hb0
    clear hb0
    go_enter Try.func47, Try.ntmps47
    go_wp2_with fail
    refine (C1.out _).mono ?_
    rintro e w1 ⟨rfl, hq1⟩
    have hb1 := below_eq hq1
    clear hq1
    have B1 := hide (HB0.out.trans (hb1.mono HB0.out.size))
    clear hb1
    go_wp2
    go_ret
    exact ⟨rfl, B1.out⟩


set_option maxRecDepth 100000 in
set_option maxHeartbeats 8000000 in
theorem specGoodQuery_any (a : Option Addr) (l : List Qr) (n cap : Nat) (w : World) (hn : l.length = n) (hs : SlQ w a l) (hn2 : n ≤ 1048576) (hst : TxQ l) (bb : Bool) (hbb : bb = true ↔ GoodQ l) :
    Calls Try.prog 22 #[.slice a n cap] w fun e w' => e = .returned (.bool bb) ∧ Below w.heap.size w w' := by
  have HBB := hide hbb
  have HST := hide hst
  have HS := hide hs
  have HN := hide hn
  clear hbb hst hs hn
  go_enter Try.func22, Try.ntmps22
  go_wp2
  go_loopw [8] (fun i wr => ∃ k : Nat, k ≤ n ∧ i = .int .i64 k ∧ Hid (∀ j, j < k → okQ j (l.getD j eQ)) ∧ Below w.heap.size w wr) (fun i _ => n - (intOf i).toNat)
  case atStart => exact ⟨0, Nat.zero_le _, rfl, fun j hj => absurd hj (Nat.not_lt_zero _), Below.refl _ _⟩
  case round =>
    obtain ⟨k, hk, rfl, HJ, hbel⟩ := hrel
    by_cases hlt : k < n
    · obtain ⟨b, off, rfl, hA0⟩ := HS.out k (by rw [HN.out]; exact hlt)
      have hA := hA0.base hbel (blk_lt hA0.k)
      have hsx := HST.out k (by rw [HN.out]; exact hlt)
      obtain ⟨⟨pk, pn, pv, pa, pb⟩, hp⟩ : ∃ p, p = l.getD k eQ := ⟨_, rfl⟩
      rw [← hp] at hA hsx
      have hc0 := hA.k
      have hc1 := hA.n
      have hc2 := hA.v
      have hc3 := hA.a
      have hc4 := hA.b
      simp only at hc0 hc1 hc2 hc3 hc4 hsx
      have hltI : (k : Int) < (n : Int) := by omega
      have YES : Hid (okQ k ⟨pk, pn, pv, pa, pb⟩ → ∀ j, j < k + 1 → okQ j (l.getD j eQ)) := by
        intro hok j hj
        by_cases e : j = k
        · subst e; rw [← hp]; exact hok
        · exact HJ.out j (by omega)
      have NO : Hid (¬ okQ k ⟨pk, pn, pv, pa, pb⟩ → bb = false) := by
        intro hok
        exact bool_noT HBB.out (fun h => hok (by have := h.2 k (by rw [HN.out]; exact hlt); rw [← hp] at this; exact this))
      have B0 := hide hbel
      have B1 := hide (hbel.alloc hbel.size (.cells #[.int .i64 pk, .string pn, .string pv, .int .i64 pa, .int .i64 pb] 51))
      have HLT : Hid (wr.heap.size < (wr.alloc (.cells #[.int .i64 pk, .string pn, .string pv, .int .i64 pa, .int .i64 pb] 51)).heap.size) := by refine hide ?_; simp
      have HC : Hid (AtQ (wr.alloc (.cells #[.int .i64 pk, .string pn, .string pv, .int .i64 pa, .int .i64 pb] 51)) wr.heap.size 0 ⟨pk, pn, pv, pa, pb⟩) := by
        refine hide ⟨?_, ?_, ?_, ?_, ?_⟩ <;> simp
      clear hA0 hA hp hbel
      by_cases hk1 : pk = 1
      · subst hk1
        by_cases h1 : pn.toList = []
        · by_cases h2 : pv.toList = []
          · by_cases h3 : pa = 0
            · by_cases h4 : pb = 0
              · subst h3
                subst h4
                go_wp2
                go_roundw
                case rel => exact ⟨k + 1, by omega, by go_num, YES.out (ok1.2 ⟨by assumption, by assumption, rfl, rfl⟩), B1.out⟩
                case measure => simp [intOf]; omega
              · subst h3
                go_wp2
                go_ret
                exact ⟨by rw [NO.out (fun h => absurd (ok1.1 h).2.2.2 (by assumption))]; rfl, B1.out⟩
            · go_wp2
              go_ret
              exact ⟨by rw [NO.out (fun h => absurd (ok1.1 h).2.2.1 (by assumption))]; rfl, B1.out⟩
          · go_wp2
            go_ret
            exact ⟨by rw [NO.out (fun h => absurd (ok1.1 h).2.1 (by assumption))]; rfl, B1.out⟩
        · go_wp2
          go_ret
          exact ⟨by rw [NO.out (fun h => absurd (ok1.1 h).1 (by assumption))]; rfl, B1.out⟩
      by_cases hk2 : pk = 2
      · subst hk2
        by_cases hok : okL (pn, pv)
        · have C := hide (fun w => l4Label_any pn pv w hsx.1 hsx.2 true (iff_of_true rfl hok))
          have HOK := hide hok
          clear hok hsx
          by_cases h3 : pa = 0
          · by_cases h4 : pb = 0
            · subst h3
              subst h4
              go_wp2_with fail
              refine (C.out _).mono ?_
              rintro e w1 ⟨rfl, hb1⟩
              have A1 := HC.out.base hb1 HLT.out
              have d3 := A1.a
              have d4 := A1.b
              simp only [Nat.zero_add] at d3 d4
              have B2 := hide (B1.out.trans (hb1.mono B1.out.size))
              clear hb1 A1
              go_wp2
              go_roundw
              case rel => exact ⟨k + 1, by omega, by go_num, YES.out (ok2.2 ⟨HOK.out, rfl, rfl⟩), B2.out⟩
              case measure => simp [intOf]; omega
            · subst h3
              have e4 : (pb == 0) = false := by simpa using h4
              go_wp2_with fail
              refine (C.out _).mono ?_
              rintro e w1 ⟨rfl, hb1⟩
              have A1 := HC.out.base hb1 HLT.out
              have d3 := A1.a
              have d4 := A1.b
              simp only [Nat.zero_add] at d3 d4
              have B2 := hide (B1.out.trans (hb1.mono B1.out.size))
              clear hb1 A1
              go_wp2
              go_ret
              exact ⟨by rw [NO.out (fun h => absurd (ok2.1 h).2.2 (by assumption))]; rfl, B2.out⟩
          · go_wp2_with fail
            refine (C.out _).mono ?_
            rintro e w1 ⟨rfl, hb1⟩
            have A1 := HC.out.base hb1 HLT.out
            have d3 := A1.a
            have d4 := A1.b
            simp only [Nat.zero_add] at d3 d4
            have B2 := hide (B1.out.trans (hb1.mono B1.out.size))
            clear hb1 A1
            go_wp2
            go_ret
            exact ⟨by rw [NO.out (fun h => absurd (ok2.1 h).2.1 (by assumption))]; rfl, B2.out⟩
        · have C := hide (fun w => l4Label_any pn pv w hsx.1 hsx.2 false (iff_of_false (by simp) hok))
          have HOK := hide hok
          clear hok hsx
          go_wp2_with fail
          refine (C.out _).mono ?_
          rintro e w1 ⟨rfl, hb1⟩
          have A1 := HC.out.base hb1 HLT.out
          have d3 := A1.a
          have d4 := A1.b
          simp only [Nat.zero_add] at d3 d4
          have B2 := hide (B1.out.trans (hb1.mono B1.out.size))
          clear hb1 A1
          go_wp2
          go_ret
          exact ⟨by rw [NO.out (fun h => HOK.out (ok2.1 h).1)]; rfl, B2.out⟩
      by_cases hk3 : pk = 3
      · subst hk3
        by_cases h1 : pn.toList = []
        · by_cases h2 : pv.toList = []
          · by_cases ha : 0 ≤ pa ∧ pa < (k : Int)
            · have CA := hide (fun w => l1In_any pa 0 ((k : Int) - 1) w true (iff_of_true rfl (by omega)))
              have HA := hide ha
              clear ha
              by_cases hb : 0 ≤ pb ∧ pb < (k : Int)
              · have CB := hide (fun w => l1In_any pb 0 ((k : Int) - 1) w true (iff_of_true rfl (by omega)))
                have HB := hide hb
                clear hb
                go_wp2_with fail
                refine (CA.out _).mono ?_
                rintro e w1 ⟨rfl, rfl⟩
                go_wp2_with fail
                refine (CB.out _).mono ?_
                rintro e w1 ⟨rfl, rfl⟩
                go_wp2
                go_roundw
                case rel => exact ⟨k + 1, by omega, by go_num, YES.out (ok3.2 ⟨by assumption, by assumption, HA.out, HB.out⟩), B1.out⟩
                case measure => simp [intOf]; omega
              · have CB := hide (fun w => l1In_any pb 0 ((k : Int) - 1) w false (iff_of_false (by simp) (by omega)))
                have HB := hide hb
                clear hb
                go_wp2_with fail
                refine (CA.out _).mono ?_
                rintro e w1 ⟨rfl, rfl⟩
                go_wp2_with fail
                refine (CB.out _).mono ?_
                rintro e w1 ⟨rfl, rfl⟩
                go_wp2
                go_ret
                exact ⟨by rw [NO.out (fun h => HB.out (ok3.1 h).2.2.2)]; rfl, B1.out⟩
            · have CA := hide (fun w => l1In_any pa 0 ((k : Int) - 1) w false (iff_of_false (by simp) (by omega)))
              have HA := hide ha
              clear ha
              go_wp2_with fail
              refine (CA.out _).mono ?_
              rintro e w1 ⟨rfl, rfl⟩
              go_wp2
              go_ret
              exact ⟨by rw [NO.out (fun h => HA.out (ok3.1 h).2.2.1)]; rfl, B1.out⟩
          · go_wp2
            go_ret
            exact ⟨by rw [NO.out (fun h => absurd (ok3.1 h).2.1 (by assumption))]; rfl, B1.out⟩
        · go_wp2
          go_ret
          exact ⟨by rw [NO.out (fun h => absurd (ok3.1 h).1 (by assumption))]; rfl, B1.out⟩
      by_cases hk4 : pk = 4
      · subst hk4
        by_cases h1 : pn.toList = []
        · by_cases h2 : pv.toList = []
          · by_cases ha : 0 ≤ pa ∧ pa < (k : Int)
            · have CA := hide (fun w => l1In_any pa 0 ((k : Int) - 1) w true (iff_of_true rfl (by omega)))
              have HA := hide ha
              clear ha
              by_cases hb : 0 ≤ pb ∧ pb < (k : Int)
              · have CB := hide (fun w => l1In_any pb 0 ((k : Int) - 1) w true (iff_of_true rfl (by omega)))
                have HB := hide hb
                clear hb
                go_wp2_with fail
                refine (CA.out _).mono ?_
                rintro e w1 ⟨rfl, rfl⟩
                go_wp2_with fail
                refine (CB.out _).mono ?_
                rintro e w1 ⟨rfl, rfl⟩
                go_wp2
                go_roundw
                case rel => exact ⟨k + 1, by omega, by go_num, YES.out (ok4.2 ⟨by assumption, by assumption, HA.out, HB.out⟩), B1.out⟩
                case measure => simp [intOf]; omega
              · have CB := hide (fun w => l1In_any pb 0 ((k : Int) - 1) w false (iff_of_false (by simp) (by omega)))
                have HB := hide hb
                clear hb
                go_wp2_with fail
                refine (CA.out _).mono ?_
                rintro e w1 ⟨rfl, rfl⟩
                go_wp2_with fail
                refine (CB.out _).mono ?_
                rintro e w1 ⟨rfl, rfl⟩
                go_wp2
                go_ret
                exact ⟨by rw [NO.out (fun h => HB.out (ok4.1 h).2.2.2)]; rfl, B1.out⟩
            · have CA := hide (fun w => l1In_any pa 0 ((k : Int) - 1) w false (iff_of_false (by simp) (by omega)))
              have HA := hide ha
              clear ha
              go_wp2_with fail
              refine (CA.out _).mono ?_
              rintro e w1 ⟨rfl, rfl⟩
              go_wp2
              go_ret
              exact ⟨by rw [NO.out (fun h => HA.out (ok4.1 h).2.2.1)]; rfl, B1.out⟩
          · go_wp2
            go_ret
            exact ⟨by rw [NO.out (fun h => absurd (ok4.1 h).2.1 (by assumption))]; rfl, B1.out⟩
        · go_wp2
          go_ret
          exact ⟨by rw [NO.out (fun h => absurd (ok4.1 h).1 (by assumption))]; rfl, B1.out⟩
      by_cases hk5 : pk = 5
      · subst hk5
        by_cases h1 : pn.toList = []
        · by_cases h2 : pv.toList = []
          · by_cases ha : 0 ≤ pa ∧ pa < (k : Int)
            · have CA := hide (fun w => l1In_any pa 0 ((k : Int) - 1) w true (iff_of_true rfl (by omega)))
              have HA := hide ha
              clear ha
              by_cases hb : pb = 0
              · subst hb
                go_wp2_with fail
                refine (CA.out _).mono ?_
                rintro e w1 ⟨rfl, rfl⟩
                go_wp2
                go_roundw
                case rel => exact ⟨k + 1, by omega, by go_num, YES.out (ok5.2 ⟨by assumption, by assumption, HA.out, rfl⟩), B1.out⟩
                case measure => simp [intOf]; omega
              · have e4 : (pb == 0) = false := by simpa using hb
                go_wp2_with fail
                refine (CA.out _).mono ?_
                rintro e w1 ⟨rfl, rfl⟩
                go_wp2
                go_ret
                exact ⟨by rw [NO.out (fun h => absurd (ok5.1 h).2.2.2 (by assumption))]; rfl, B1.out⟩
            · have CA := hide (fun w => l1In_any pa 0 ((k : Int) - 1) w false (iff_of_false (by simp) (by omega)))
              have HA := hide ha
              clear ha
              go_wp2_with fail
              refine (CA.out _).mono ?_
              rintro e w1 ⟨rfl, rfl⟩
              go_wp2
              go_ret
              exact ⟨by rw [NO.out (fun h => HA.out (ok5.1 h).2.2.1)]; rfl, B1.out⟩
          · go_wp2
            go_ret
            exact ⟨by rw [NO.out (fun h => absurd (ok5.1 h).2.1 (by assumption))]; rfl, B1.out⟩
        · go_wp2
          go_ret
          exact ⟨by rw [NO.out (fun h => absurd (ok5.1 h).1 (by assumption))]; rfl, B1.out⟩
      have e1 : (pk == 1) = false := by simpa using hk1
      have e2 : (pk == 2) = false := by simpa using hk2
      have e3 : (pk == 3) = false := by simpa using hk3
      have e4 : (pk == 4) = false := by simpa using hk4
      have e5 : (pk == 5) = false := by simpa using hk5
      have HNK : Hid (¬ okQ k ⟨pk, pn, pv, pa, pb⟩) := fun h => by rcases okQ_kind h with e | e | e | e | e <;> simp only at e <;> omega
      clear hk1 hk2 hk3 hk4 hk5
      go_wp2
      go_ret
      exact ⟨by rw [NO.out (HNK.out)]; rfl, B1.out⟩
    · have hltI : ¬ (k : Int) < (n : Int) := by omega
      have hg : GoodQ l ↔ 1 ≤ (n : Int) ∧ (n : Int) ≤ 20 := ⟨fun h => by have := h.1; rw [HN.out] at this; omega, fun h => ⟨by rw [HN.out]; omega, fun j hj => HJ.out j (by rw [HN.out] at hj; omega)⟩⟩
      have C := hide (fun w => l1In_any (n : Int) 1 20 w bb (HBB.out.trans hg))
      clear hg
      go_wp2_with fail
      refine (C.out _).mono ?_
      rintro e w1 ⟨rfl, rfl⟩
      go_wp2
      go_ret
      exact ⟨rfl, hbel⟩
end Go.Proofs.Ythicdnkngpiccab.L4
