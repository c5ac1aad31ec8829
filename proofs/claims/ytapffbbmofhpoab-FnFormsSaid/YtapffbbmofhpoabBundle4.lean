/-
  Contract: impl.GoodForm: whether a form is good.
  Contract: spec.l1In: whether a number lies between two.
  Contracts: spec.l5Part, spec.GoodForm: whether a form is good.
  Contracts: slices.Clone of a form, impl.NotForm, spec.NotForm: a form with a FoNot of its last part behind all, in new memory.
  Contracts: impl.LeftOf, spec.LeftOf: what is left of a good form by a letter, where it is no greater than a form may be.
  Lists of texts in memory; the texts of two letters, row by row. Nothing of the program's text is proved here but closed facts on its types.
  The mathematics of the law FnForms: what is left by a letter, a form with a 'not' behind it, words. Nothing of the program's text is proved here.
  Contracts: (*spec.l1Cur).of, (*spec.l1Cur).formOf: some text of a list, some tree of so many levels.
-/
import Derived.Test.YtapffbbmofhpoabBundle3
import Derived.Test.YtapffbbmofhpoabBundle1
import Derived.Test.YtapffbbmofhpoabBundle2
import Derived.Maps.AppendAt
namespace Go.Proofs.Ytapffbbmofhpoab.L5
open Go.RowKit L1 L4
set_option linter.unusedVariables false

/-- How often a number stands in a list. -/
def cn (xs : List Int) (i : Int) : Int := (xs.map fun x => if x = i then (1 : Int) else 0).sum
theorem cn_nb (p : Pr) (i : Int) : cn (nb p) i = nm p i := by
  unfold nb
  by_cases h5 : p.k = 5 ∨ p.k = 6
  · rw [if_pos h5, nm_two h5]
    simp [cn]
    omega
  · rw [if_neg h5]
    by_cases h7 : p.k = 7 ∨ p.k = 8
    · rw [if_pos h7, nm_one h7]
      simp [cn]
    · rw [if_neg h7]
      unfold nm
      rw [if_neg (by omega), if_neg (by omega)]
      rfl
theorem cn_snoc (xs : List Int) (j : Nat) (hj : j < xs.length) (i : Int) : cn (xs.take (j + 1)) i = cn (xs.take j) i + (if xs.getD j 0 = i then 1 else 0) := by
  unfold cn
  rw [List.take_succ_eq_append_getElem hj, List.map_append, List.sum_append]
  simp [List.getD, List.getElem?_eq_getElem hj]
theorem cn_range (xs : List Int) (i : Int) : 0 ≤ cn xs i ∧ cn xs i ≤ (xs.length : Int) := by
  induction xs with
  | nil => simp [cn]
  | cons x l ih =>
    simp only [cn, List.map_cons, List.sum_cons, List.length_cons] at ih ⊢
    split <;> omega
/-- A list of counts. -/
def Cnt (m : Nat) (f : Int → Int) (ys : List Int) : Prop := ys.length = m ∧ ∀ i, i < m → ys.getD i 0 = f (i : Int)
theorem Cnt.bump {m : Nat} {f g : Int → Int} {ys : List Int} (h : Cnt m f ys) (x : Int) (hx : 0 ≤ x) (hg : ∀ i, g i = f i + (if x = i then 1 else 0)) : Cnt m g (ys.set x.toNat (ys.getD x.toNat 0 + 1)) := by
  refine ⟨by simpa using h.1, fun i hi => ?_⟩
  rw [hg, ← h.2 i hi]
  by_cases e : x = (i : Int)
  · subst e
    rw [if_pos rfl]
    simp only [Int.toNat_natCast, List.getD, List.getElem?_set_self (show i < ys.length by rw [h.1]; exact hi), Option.getD_some]
  · rw [if_neg e]
    simp only [List.getD, List.getElem?_set_ne (show x.toNat ≠ i by omega)]
    omega
theorem sl_set {w : World} {a : Option Addr} {xs : List Int} {p : Addr} {u : Value} (h : Sl w a xs) (hne : ∀ x, a = some x → x.block ≠ p.block) : Sl (w.setCell p u) a xs := fun i hi => by
  obtain ⟨b, off, ha, hc⟩ := h i hi
  refine ⟨b, off, ha, ?_⟩
  have := hne _ ha
  rw [World.cell?_of_block (w := w) (Below.heap_setCell w p u b this)]
  exact hc
theorem heap_big {w w' : World} {g : Nat} (h : g < w.heap.size) (hb : Below w.heap.size w w') : g < w'.heap.size := Nat.lt_of_lt_of_le h hb.size
end Go.Proofs.Ytapffbbmofhpoab.L5
namespace Go.Proofs.Ytapffbbmofhpoab.L5
open Go.RowKit L1 L4
abbrev rowA (g : Nat) (ys : List Int) (w : World) (base : Nat) : Prop := w.ownsRow base 114 1 (.slice (some ⟨g, 0, none⟩) 24 24) 24 (ys.map (Value.int .i64))
theorem rowA_new (w : World) : rowA w.heap.size (List.replicate 24 0) (w.alloc (.cells #[.int .i64 0, .int .i64 0, .int .i64 0, .int .i64 0, .int .i64 0, .int .i64 0, .int .i64 0, .int .i64 0, .int .i64 0, .int .i64 0, .int .i64 0, .int .i64 0, .int .i64 0, .int .i64 0, .int .i64 0, .int .i64 0, .int .i64 0, .int .i64 0, .int .i64 0, .int .i64 0, .int .i64 0, .int .i64 0, .int .i64 0, .int .i64 0] 114)) w.heap.size :=
  ⟨rfl, .inr ⟨w.heap.size, 24, _, rfl, Nat.le_refl _, by show (w.heap.push _)[w.heap.size]? = _; exact Array.getElem?_push_size, Nat.le_refl _, by unfold maxLen; omega, rfl, rfl⟩⟩
theorem ints_get {ys : List Int} {i : Nat} (h : i < ys.length) : (ys.map (Value.int .i64))[i]? = some (.int .i64 (ys.getD i 0)) := by
  rw [List.getElem?_map, List.getElem?_eq_getElem h]
  simp [List.getD, List.getElem?_eq_getElem h]
theorem slice24 (w : World) (g k : Nat) (h1 : 1 ≤ k) (h24 : k ≤ 24) : (Instr.sliceAt 114 (.pointer (some ⟨g, 0, none⟩)) none (some (.int .i64 ((k : Int) - 1))) none).run Try.prog w = .ok (.slice (some ⟨g, 0, none⟩) (k - 1) 24) w := by
  have hl : Try.prog.arrayLen 114 = 24 := by kernel_rfl
  have hu : Try.prog.underlying 114 = some (.array (Try.prog.arrayLen 114) (Try.prog.elem 114)) := by kernel_rfl
  have hsz : (sizeOf (Try.prog.elem 114)).run Try.prog w = .ok 1 w := by kernel_rfl
  rw [run_sliceAt_array_h w 114 ⟨g, 0, none⟩ hu .i64 ((k : Int) - 1) (by omega) (by rw [hl]; omega), hsz, hl]
  have e : ((k : Int) - 1).toNat = k - 1 := by omega
  rw [e]
  simp [slicedAt, Result.andThen, Addr.add]
theorem rep0 (n i : Nat) : (List.replicate n (0 : Int)).getD i 0 = 0 := by
  simp only [List.getD, List.getElem?_replicate]
  split <;> rfl
theorem cnt_step (l : List Pr) (k : Nat) (hk : k < l.length) (i : Int) : cnt (l.take (k + 1)) i = cnt (l.take k) i + cn (nb (l.getD k eP)) i := by
  rw [take_snoc l k hk, cnt_snoc, cn_nb]
set_option maxRecDepth 100000 in
set_option maxHeartbeats 8000000 in
theorem goodForm_any (a : Option Addr) (l : List Pr) (n cap : Nat) (w : World) (hn : l.length = n) (hs : SlP w a l) (hn2 : n ≤ 1048576) (hst : TxP l) (bb : Bool) (hbb : bb = true ↔ GoodF l) :
    Calls Try.prog 37 #[.slice a n cap] w fun e w' => e = .returned (.bool bb) ∧ Below w.heap.size w w' := by
  have HBB := hide hbb
  have HST := hide hst
  clear hbb hst
  by_cases h1 : (n : Int) < 1
  · have hno : ¬ GoodF l := fun h => by have := h.1; omega
    have HNO := hide hno
    clear hs hn hno
    go_enter Try.func37, Try.ntmps37
    go_wp2
    go_ret
    exact ⟨by rw [bool_noT HBB.out HNO.out]; rfl, Below.refl _ _⟩
  by_cases h20 : 24 < (n : Int)
  · have hno : ¬ GoodF l := fun h => by have := h.1; omega
    have HNO := hide hno
    clear hs hn hno
    go_enter Try.func37, Try.ntmps37
    go_wp2
    go_ret
    exact ⟨by rw [bool_noT HBB.out HNO.out]; rfl, Below.refl _ _⟩
  have HS := hide hs
  have HN := hide hn
  have HNEW := hide (rowA_new w)
  have HBN : Hid (Below w.heap.size w (w.alloc (.cells #[.int .i64 0, .int .i64 0, .int .i64 0, .int .i64 0, .int .i64 0, .int .i64 0, .int .i64 0, .int .i64 0, .int .i64 0, .int .i64 0, .int .i64 0, .int .i64 0, .int .i64 0, .int .i64 0, .int .i64 0, .int .i64 0, .int .i64 0, .int .i64 0, .int .i64 0, .int .i64 0, .int .i64 0, .int .i64 0, .int .i64 0, .int .i64 0] 114))) := hide ((Below.refl _ _).alloc (Nat.le_refl _) _)
  clear hs hn
  go_enter Try.func37, Try.ntmps37
  go_wp2
  go_loopw [20] (fun i wr => ∃ (k : Nat) (ys : List Int), k ≤ n ∧ i = .int .i64 k ∧ Hid (∀ j, j < k → okP j (l.getD j eP)) ∧ Hid (Cnt 24 (fun i => cnt (l.take k) i) ys) ∧ Hid (rowA w.heap.size ys wr w.heap.size) ∧ Hid (Below w.heap.size w wr) ∧ Hid (w.heap.size < wr.heap.size)) (fun i _ => n - (intOf i).toNat)
  case atStart => exact ⟨0, List.replicate 24 0, Nat.zero_le _, rfl, fun j hj => absurd hj (Nat.not_lt_zero _), ⟨by simp, fun i hi => by rw [rep0]; simp [cnt]⟩, HNEW.out, HBN.out, by refine hide ?_; simp⟩
  case round =>
    obtain ⟨k, ys, hk, rfl, HJ, HY, HR, HB, HZ⟩ := hrel
    by_cases hlt : k < n
    · obtain ⟨b, off, rfl, hA0⟩ := HS.out k (by rw [HN.out]; exact hlt)
      have hA := hA0.base HB.out (blk_lt hA0.k)
      have hsx := HST.out k (by rw [HN.out]; exact hlt)
      have hstep := cnt_step l k (by rw [HN.out]; exact hlt)
      obtain ⟨p, hp⟩ : ∃ p, p = l.getD k eP := ⟨_, rfl⟩
      rw [← hp] at hA hsx hstep
      have hc0 := hA.k
      have hc1 := hA.t
      have hc2 := hA.a
      have hc3 := hA.b
      have hltI : (k : Int) < (n : Int) := by omega
      have HP := hide hp.symm
      have HSTEP := hide hstep
      have HSZ : Hid (wr.heap.size < (wr.alloc (.cells #[.int .i64 p.k, .string p.t, .int .i64 p.a, .int .i64 p.b] 116)).heap.size) := by refine hide ?_; simp
      have HPB : Hid (AtP (wr.alloc (.cells #[.int .i64 p.k, .string p.t, .int .i64 p.a, .int .i64 p.b] 116)) wr.heap.size 0 p) := by
        refine hide ⟨?_, ?_, ?_, ?_⟩ <;> simp
      have B1 := hide (HB.out.alloc HB.out.size (.cells #[.int .i64 p.k, .string p.t, .int .i64 p.a, .int .i64 p.b] 116))
      have R1 := hide (HR.out.alloc (.cells #[.int .i64 p.k, .string p.t, .int .i64 p.a, .int .i64 p.b] 116))
      clear hA0 hA hp hstep
      by_cases hok : okP k p
      · have C := hide (fun w => goodPart_any p k w hsx true (iff_of_true rfl hok))
        have HOK := hide hok
        clear hok hsx
        go_wp2_with fail
        refine (C.out _).mono ?_
        rintro e w1 ⟨rfl, hb1⟩
        have P1 := HPB.out.base hb1 HSZ.out
        have d0 := P1.k
        have d1 := P1.t
        have d2 := P1.a
        have d3 := P1.b
        simp only [Nat.zero_add] at d0 d1 d2 d3
        have B2 := hide (B1.out.trans (hb1.mono B1.out.size))
        have R2 := hide (own_belowT R1.out hb1)
        have Z2 : Hid (w.heap.size < w1.heap.size) := hide (by have h1 := HZ.out; have h2 := HSZ.out; have h3 := hb1.size; omega)
        clear hb1 P1
        go_wp2_with fail
        refine (namedBy_any p _).mono ?_
        rintro e w2 ⟨x, m, c2, rfl, hs2, hm, hb2, hf2⟩
        have HX : Hid (∀ y, x = some y → y.block ≠ w.heap.size) := hide (fun y hy => by
          have h1 := hf2 y hy
          have h2 := Z2.out
          omega)
        have B3 := hide (B2.out.trans (hb2.mono B2.out.size))
        have R3 := hide (own_belowT R2.out hb2)
        have Z3 : Hid (w.heap.size < w2.heap.size) := hide (by have h1 := Z2.out; have h3 := hb2.size; omega)
        have hm2 : m ≤ 2 := by rw [hm]; exact nb_len p
        have HM := hide hm
        have S3 := hide hs2
        clear hb2 hs2 hm hf2
        go_wp2
        go_loopw [32] (fun i wr' => ∃ (j : Nat) (zs : List Int), j ≤ m ∧ i = .int .i64 j ∧ Hid (Cnt 24 (fun i => cnt (l.take k) i + cn ((nb p).take j) i) zs) ∧ Hid (rowA w.heap.size zs wr' w.heap.size) ∧ Hid (Below w.heap.size w wr') ∧ Hid (w.heap.size < wr'.heap.size) ∧ Hid (Sl wr' x (nb p))) (fun i _ => m - (intOf i).toNat)
        case atStart => exact ⟨0, ys, Nat.zero_le _, rfl, hide (by simpa [cn] using HY.out), R3, B3, Z3, S3⟩
        case round =>
          obtain ⟨j, zs, hj, rfl, HQ, HR4, HB4, HZ4, HS4⟩ := hrel
          by_cases hjm : j < m
          · obtain ⟨b', off', rfl, hcv⟩ := HS4.out j (by rw [← HM.out]; exact hjm)
            have hv := ok_nb HOK.out j (by rw [← HM.out]; exact hjm)
            have hcs := cn_snoc (nb p) j (by rw [← HM.out]; exact hjm)
            obtain ⟨q, hq⟩ : ∃ q : Nat, (nb p).getD j 0 = (q : Int) := ⟨((nb p).getD j 0).toNat, by omega⟩
            rw [hq] at hcv hv hcs
            have hq24 : q < 24 := by omega
            have hjI : (j : Int) < (m : Int) := by omega
            have hqI : (q : Int) < 24 := by omega
            have hz : zs.getD q 0 = cnt (l.take k) (q : Int) + cn ((nb p).take j) (q : Int) := HQ.out.2 q hq24
            have hzr : 0 ≤ zs.getD q 0 ∧ zs.getD q 0 ≤ 100 := by
              rw [hz]
              have h1 := cnt_range (l.take k) (q : Int)
              have h2 := cn_range ((nb p).take j) (q : Int)
              have h3 := nb_len p
              simp only [List.length_take] at h1 h2
              omega
            have hcz := HR4.out.cellAt q (by omega)
            rw [ints_get (by rw [HQ.out.1]; exact hq24)] at hcz
            have hfr := HR4.out.frozenAt q
            have hst := HR4.out.stored q (.int .i64 (zs.getD q 0 + 1))
            have hbump := HQ.out.bump (q : Int) (by omega) (g := fun i => cnt (l.take k) i + cn ((nb p).take (j + 1)) i) (fun i => by rw [hcs]; omega)
            simp only [Int.toNat_natCast] at hbump
            have R5 : Hid (rowA w.heap.size (zs.set q (zs.getD q 0 + 1)) (wr.setCell ⟨w.heap.size, q, none⟩ (.int .i64 (zs.getD q 0 + 1))) w.heap.size) := hide (by rw [rowA, List.map_set]; exact hst.1)
            have B5 := hide (HB4.out.setCell (p := ⟨w.heap.size, q, none⟩) (Nat.le_refl _) (.int .i64 (zs.getD q 0 + 1)))
            have S5 := hide (sl_set (p := ⟨w.heap.size, q, none⟩) (u := .int .i64 (zs.getD q 0 + 1)) HS4.out HX.out)
            have HBUMP := hide hbump
            obtain ⟨c, hc⟩ : ∃ c, c = zs.getD q 0 := ⟨_, rfl⟩
            rw [← hc] at hcz hzr R5 B5 S5 HBUMP
            obtain ⟨hz0, hz1⟩ := hzr
            clear hc hbump hst hz hcs hq hv
            go_wp2
            go_roundw
            case rel => exact ⟨j + 1, _, by omega, by go_num, HBUMP, R5, B5, by refine hide ?_; simpa using HZ4.out, S5⟩
            case measure => simp [intOf]; omega
          · obtain rfl : j = m := by omega
            have hjI : ¬ (j : Int) < (j : Int) := by omega
            go_wp2
            go_roundw
            case rel =>
              refine ⟨k + 1, zs, by omega, by go_num, ?_, ?_, HR4, HB4, HZ4⟩
              · intro i hi
                by_cases e : i = k
                · subst e; rw [HP.out]; exact HOK.out
                · exact HJ.out i (by omega)
              · refine hide ⟨HQ.out.1, fun i hi => ?_⟩
                have h1 : zs.getD i 0 = cnt (l.take k) (i : Int) + cn ((nb p).take j) (i : Int) := HQ.out.2 i hi
                rw [h1, HM.out, List.take_length]
                exact (HSTEP.out (i : Int)).symm
            case measure => simp [intOf]; omega
      · have C := hide (fun w => goodPart_any p k w hsx false (iff_of_false (by simp) hok))
        have hno : ¬ GoodF l := fun h => hok (by have := h.2.1 k (by rw [HN.out]; exact hlt); rw [HP.out] at this; exact this)
        have HNO := hide hno
        clear hok hsx hno
        go_wp2_with fail
        refine (C.out _).mono ?_
        rintro e w1 ⟨rfl, hb1⟩
        have B2 := hide (B1.out.trans (hb1.mono B1.out.size))
        clear hb1
        go_wp2
        go_ret
        exact ⟨by rw [bool_noT HBB.out HNO.out]; rfl, B2.out⟩
    · obtain rfl : k = n := by omega
      have hltI : ¬ (k : Int) < (k : Int) := by omega
      have hsl := slice24 wr w.heap.size k (by omega) (by omega)
      have HK := hide (show 1 ≤ k ∧ k ≤ 24 from ⟨by omega, by omega⟩)
      have HG : Hid (GoodF l ↔ ∀ i : Nat, i < k - 1 → ys.getD i 0 = 1) := hide (by
        have hN := HN.out
        have hY : ∀ i : Nat, i < k - 1 → ys.getD i 0 = cnt l (i : Int) := fun i hi => by
          rw [HY.out.2 i (by have := HK.out; omega), ← hN, List.take_length]
        constructor
        · intro h i hi
          rw [hY i hi]
          exact h.2.2 i (by omega)
        · intro h
          exact ⟨by have := HK.out; omega, fun j hj => HJ.out j (by omega), fun i hi => by rw [← hY i (by omega)]; exact h i (by omega)⟩)
      obtain ⟨r, hr⟩ : ∃ r, r = k - 1 := ⟨_, rfl⟩
      rw [← hr] at hsl HG
      have hr24 : r < 24 := by omega
      clear hr
      go_wp2
      go_loopw [48] (fun i wr' => ∃ (j : Nat), j ≤ r ∧ i = .int .i64 j ∧ wr' = wr ∧ Hid (∀ i : Nat, i < j → ys.getD i 0 = 1)) (fun i _ => r - (intOf i).toNat)
      case atStart => exact ⟨0, Nat.zero_le _, rfl, by first | rfl | trivial, fun j hj => absurd hj (Nat.not_lt_zero _)⟩
      case round =>
        obtain ⟨j, hj, rfl, rfl, HD⟩ := hrel
        by_cases hjm : j < r
        · have hjI : (j : Int) < (r : Int) := by omega
          have hcz := HR.out.cellAt j (by omega)
          rw [ints_get (by rw [HY.out.1]; omega)] at hcz
          obtain ⟨c, hc⟩ : ∃ c, c = ys.getD j 0 := ⟨_, rfl⟩
          rw [← hc] at hcz
          have HC := hide hc
          clear hc
          by_cases h1 : c = 1
          · subst h1
            go_wp2
            go_roundw
            case rel =>
              refine ⟨j + 1, by omega, by go_num, by first | rfl | trivial, ?_⟩
              intro i hi
              by_cases e : i = j
              · subst e; exact HC.out.symm
              · exact HD.out i (by omega)
            case measure => simp [intOf]; omega
          · have E := hide (bool_noT (HBB.out.trans HG.out) (fun h => h1 (by rw [HC.out]; exact h j hjm)))
            have h1b : (c == 1) = false := by simpa using h1
            clear h1
            go_wp2
            go_ret
            exact ⟨by rw [E.out]; rfl, HB.out⟩
        · have hjI : ¬ (j : Int) < (r : Int) := by omega
          have E := hide ((HBB.out.trans HG.out).2 (fun i hi => HD.out i (by omega)))
          go_wp2
          go_ret
          exact ⟨by rw [E.out]; rfl, HB.out⟩
end Go.Proofs.Ytapffbbmofhpoab.L5

namespace Go.Proofs.Ytapffbbmofhpoab.L4
open Go.RowKit L1
set_option linter.unusedVariables false

set_option maxRecDepth 100000 in
set_option maxHeartbeats 400000 in
theorem l1In_any (x lo hi : Int) (w : World) (b : Bool) (hb : b = true ↔ lo ≤ x ∧ x ≤ hi) :
    Calls Try.prog 62 #[.int .i64 x, .int .i64 lo, .int .i64 hi] w fun e w' => e = .returned (.bool b) ∧ w = w' := by
  by_cases h1 : lo ≤ x
  · by_cases h2 : x ≤ hi
    · obtain rfl : b = true := hb.2 ⟨h1, h2⟩
      clear hb
      go_enter Try.func62, Try.ntmps62
      go_wp2
      go_ret
      exact ⟨rfl, rfl⟩
    · obtain rfl : b = false := bool_noT hb (fun h => h2 h.2)
      clear hb
      go_enter Try.func62, Try.ntmps62
      go_wp2
      go_ret
      exact ⟨rfl, rfl⟩
  · obtain rfl : b = false := bool_noT hb (fun h => h1 h.1)
    clear hb
    go_enter Try.func62, Try.ntmps62
    go_wp2
    go_ret
    exact ⟨rfl, rfl⟩

end Go.Proofs.Ytapffbbmofhpoab.L4

namespace Go.Proofs.Ytapffbbmofhpoab.L5
open Go.RowKit L1 L4
set_option linter.unusedVariables false

set_option maxRecDepth 100000 in
set_option maxHeartbeats 4000000 in
theorem l5Part_any (p : Pr) (i : Nat) (w : World) (hx : p.t.size ≤ 9223372036854775807) (hi : i ≤ 1048576) (bb : Bool) (hbb : bb = true ↔ okP i p) :
    Calls Try.prog 128 #[svP p, .int .i64 (i : Int)] w fun e w' => e = .returned (.bool bb) ∧ Below w.heap.size w w' := by
  obtain ⟨pk, pt, pa, pb⟩ := p
  simp only at hx
  have HBB := hide hbb
  have HB0 : Hid (Below w.heap.size w (w.alloc (.cells #[.int .i64 pk, .string pt, .int .i64 pa, .int .i64 pb] 116))) := hide ((Below.refl _ _).alloc (Nat.le_refl _) _)
  have hi0 : -1 ≤ (i : Int) - 1 := by omega
  clear hbb
  by_cases h5 : pk = 5 ∨ pk = 6
  · have HQ := hide (HBB.out.trans (ok5 h5))
    have C1 := hide (fun w => l5Two_any pk w true (iff_of_true rfl h5))
    by_cases ht : pt.toList = []
    · by_cases ha : 0 ≤ pa ∧ pa < (i : Int)
      · have CA := hide (fun w => l1In_any pa 0 ((i : Int) - 1) w true (iff_of_true rfl (by omega)))
        by_cases hb : 0 ≤ pb ∧ pb < (i : Int)
        · have CB := hide (fun w => l1In_any pb 0 ((i : Int) - 1) w true (iff_of_true rfl (by omega)))
          have E := hide (HQ.out.2 ⟨ht, ha, hb⟩)
          clear ha hb h5
          go_enter Try.func128, Try.ntmps128
          go_wp2_with fail
          refine (C1.out _).mono ?_
          rintro e w1 ⟨rfl, rfl⟩
          go_wp2_with fail
          refine (CA.out _).mono ?_
          rintro e w1 ⟨rfl, rfl⟩
          go_wp2_with fail
          refine (CB.out _).mono ?_
          rintro e w1 ⟨rfl, rfl⟩
          go_wp2
          go_ret
          exact ⟨ret_bool E.out.symm, HB0.out⟩
        · have CB := hide (fun w => l1In_any pb 0 ((i : Int) - 1) w false (iff_of_false (by simp) (by omega)))
          have E := hide (bool_noT HQ.out (fun h => hb h.2.2))
          clear ha hb h5
          go_enter Try.func128, Try.ntmps128
          go_wp2_with fail
          refine (C1.out _).mono ?_
          rintro e w1 ⟨rfl, rfl⟩
          go_wp2_with fail
          refine (CA.out _).mono ?_
          rintro e w1 ⟨rfl, rfl⟩
          go_wp2_with fail
          refine (CB.out _).mono ?_
          rintro e w1 ⟨rfl, rfl⟩
          go_wp2
          go_ret
          exact ⟨ret_bool E.out.symm, HB0.out⟩
      · have CA := hide (fun w => l1In_any pa 0 ((i : Int) - 1) w false (iff_of_false (by simp) (by omega)))
        have E := hide (bool_noT HQ.out (fun h => ha h.2.1))
        clear ha h5
        go_enter Try.func128, Try.ntmps128
        go_wp2_with fail
        refine (C1.out _).mono ?_
        rintro e w1 ⟨rfl, rfl⟩
        go_wp2_with fail
        refine (CA.out _).mono ?_
        rintro e w1 ⟨rfl, rfl⟩
        go_wp2
        go_ret
        exact ⟨ret_bool E.out.symm, HB0.out⟩
    · have E := hide (bool_noT HQ.out (fun h => ht h.1))
      clear h5
      go_enter Try.func128, Try.ntmps128
      go_wp2_with fail
      refine (C1.out _).mono ?_
      rintro e w1 ⟨rfl, rfl⟩
      go_wp2
      go_ret
      exact ⟨ret_bool E.out.symm, HB0.out⟩
  have C1 := hide (fun w => l5Two_any pk w false (iff_of_false (by simp) h5))
  by_cases h7 : pk = 7 ∨ pk = 8
  · have HQ := hide (HBB.out.trans (ok7 h7))
    have C2 := hide (fun w => l5One_any pk w true (iff_of_true rfl h7))
    by_cases ht : pt.toList = []
    · by_cases ha : 0 ≤ pa ∧ pa < (i : Int)
      · have CA := hide (fun w => l1In_any pa 0 ((i : Int) - 1) w true (iff_of_true rfl (by omega)))
        have E : Hid ((pb == 0) = bb) := hide (by
          by_cases hb : pb = 0
          · rw [HQ.out.2 ⟨ht, ha, hb⟩]; simpa using hb
          · rw [bool_noT HQ.out (fun h => hb h.2.2)]; simpa using hb)
        clear ha h5 h7
        go_enter Try.func128, Try.ntmps128
        go_wp2_with fail
        refine (C1.out _).mono ?_
        rintro e w1 ⟨rfl, rfl⟩
        go_wp2_with fail
        refine (C2.out _).mono ?_
        rintro e w1 ⟨rfl, rfl⟩
        go_wp2_with fail
        refine (CA.out _).mono ?_
        rintro e w1 ⟨rfl, rfl⟩
        go_wp2
        go_ret
        exact ⟨ret_bool E.out, HB0.out⟩
      · have CA := hide (fun w => l1In_any pa 0 ((i : Int) - 1) w false (iff_of_false (by simp) (by omega)))
        have E := hide (bool_noT HQ.out (fun h => ha h.2.1))
        clear ha h5 h7
        go_enter Try.func128, Try.ntmps128
        go_wp2_with fail
        refine (C1.out _).mono ?_
        rintro e w1 ⟨rfl, rfl⟩
        go_wp2_with fail
        refine (C2.out _).mono ?_
        rintro e w1 ⟨rfl, rfl⟩
        go_wp2_with fail
        refine (CA.out _).mono ?_
        rintro e w1 ⟨rfl, rfl⟩
        go_wp2
        go_ret
        exact ⟨ret_bool E.out.symm, HB0.out⟩
    · have E := hide (bool_noT HQ.out (fun h => ht h.1))
      clear h5 h7
      go_enter Try.func128, Try.ntmps128
      go_wp2_with fail
      refine (C1.out _).mono ?_
      rintro e w1 ⟨rfl, rfl⟩
      go_wp2_with fail
      refine (C2.out _).mono ?_
      rintro e w1 ⟨rfl, rfl⟩
      go_wp2
      go_ret
      exact ⟨ret_bool E.out.symm, HB0.out⟩
  have C2 := hide (fun w => l5One_any pk w false (iff_of_false (by simp) h7))
  by_cases h3 : pk = 3
  · subst h3
    have HQ := hide (HBB.out.trans ok3)
    clear h5 h7
    by_cases h1 : (pt.size : Int) = 1
    · have hs1 : pt.size = 1 := by omega
      by_cases hl : okc (ltr pt)
      · have C3 := hide (fun w => l5Letters_any pt w hx true (iff_of_true rfl ((let_one hs1).2 hl)))
        by_cases ha : pa = 0
        · subst ha
          have E : Hid ((pb == 0) = bb) := hide (by
            by_cases hb : pb = 0
            · rw [HQ.out.2 ⟨⟨hs1, hl⟩, rfl, hb⟩]; simpa using hb
            · rw [bool_noT HQ.out (fun h => hb h.2.2)]; simpa using hb)
          clear hl hs1
          go_enter Try.func128, Try.ntmps128
          go_wp2_with fail
          refine (C1.out _).mono ?_
          rintro e w1 ⟨rfl, rfl⟩
          go_wp2_with fail
          refine (C2.out _).mono ?_
          rintro e w1 ⟨rfl, rfl⟩
          go_wp2_with fail
          refine (C3.out _).mono ?_
          rintro e w1 ⟨rfl, rfl⟩
          go_wp2
          go_ret
          exact ⟨ret_bool E.out, HB0.out⟩
        · have E := hide (bool_noT HQ.out (fun h => ha h.2.1))
          have hab : (pa == 0) = false := by simpa using ha
          clear hl hs1 ha
          go_enter Try.func128, Try.ntmps128
          go_wp2_with fail
          refine (C1.out _).mono ?_
          rintro e w1 ⟨rfl, rfl⟩
          go_wp2_with fail
          refine (C2.out _).mono ?_
          rintro e w1 ⟨rfl, rfl⟩
          go_wp2_with fail
          refine (C3.out _).mono ?_
          rintro e w1 ⟨rfl, rfl⟩
          go_wp2
          go_ret
          exact ⟨ret_bool E.out.symm, HB0.out⟩
      · have C3 := hide (fun w => l5Letters_any pt w hx false (iff_of_false (by simp) (fun h => hl ((let_one hs1).1 h))))
        have E := hide (bool_noT HQ.out (fun h => hl h.1.2))
        clear hl hs1
        go_enter Try.func128, Try.ntmps128
        go_wp2_with fail
        refine (C1.out _).mono ?_
        rintro e w1 ⟨rfl, rfl⟩
        go_wp2_with fail
        refine (C2.out _).mono ?_
        rintro e w1 ⟨rfl, rfl⟩
        go_wp2_with fail
        refine (C3.out _).mono ?_
        rintro e w1 ⟨rfl, rfl⟩
        go_wp2
        go_ret
        exact ⟨ret_bool E.out.symm, HB0.out⟩
    · have E := hide (bool_noT HQ.out (fun h => h1 (by have := h.1.1; omega)))
      have h1b : ((pt.size : Int) == 1) = false := by simpa using h1
      clear h1
      go_enter Try.func128, Try.ntmps128
      go_wp2_with fail
      refine (C1.out _).mono ?_
      rintro e w1 ⟨rfl, rfl⟩
      go_wp2_with fail
      refine (C2.out _).mono ?_
      rintro e w1 ⟨rfl, rfl⟩
      go_wp2
      go_ret
      exact ⟨ret_bool E.out.symm, HB0.out⟩
  have e3 : (pk == 3) = false := by simpa using h3
  by_cases h1 : 1 ≤ pk ∧ pk ≤ 4
  · have C3 := hide (fun w => l1In_any pk 1 4 w true (iff_of_true rfl h1))
    have HQ := hide (HBB.out.trans (ok1 (by omega)))
    by_cases ht : pt.toList = []
    · by_cases ha : pa = 0
      · subst ha
        have E : Hid ((pb == 0) = bb) := hide (by
          by_cases hb : pb = 0
          · rw [HQ.out.2 ⟨ht, rfl, hb⟩]; simpa using hb
          · rw [bool_noT HQ.out (fun h => hb h.2.2)]; simpa using hb)
        clear h1 h3 h5 h7
        go_enter Try.func128, Try.ntmps128
        go_wp2_with fail
        refine (C1.out _).mono ?_
        rintro e w1 ⟨rfl, rfl⟩
        go_wp2_with fail
        refine (C2.out _).mono ?_
        rintro e w1 ⟨rfl, rfl⟩
        go_wp2_with fail
        refine (C3.out _).mono ?_
        rintro e w1 ⟨rfl, rfl⟩
        go_wp2
        go_ret
        exact ⟨ret_bool E.out, HB0.out⟩
      · have E := hide (bool_noT HQ.out (fun h => ha h.2.1))
        have hab : (pa == 0) = false := by simpa using ha
        clear h1 h3 h5 h7 ha
        go_enter Try.func128, Try.ntmps128
        go_wp2_with fail
        refine (C1.out _).mono ?_
        rintro e w1 ⟨rfl, rfl⟩
        go_wp2_with fail
        refine (C2.out _).mono ?_
        rintro e w1 ⟨rfl, rfl⟩
        go_wp2_with fail
        refine (C3.out _).mono ?_
        rintro e w1 ⟨rfl, rfl⟩
        go_wp2
        go_ret
        exact ⟨ret_bool E.out.symm, HB0.out⟩
    · have E := hide (bool_noT HQ.out (fun h => ht h.1))
      clear h1 h3 h5 h7
      go_enter Try.func128, Try.ntmps128
      go_wp2_with fail
      refine (C1.out _).mono ?_
      rintro e w1 ⟨rfl, rfl⟩
      go_wp2_with fail
      refine (C2.out _).mono ?_
      rintro e w1 ⟨rfl, rfl⟩
      go_wp2_with fail
      refine (C3.out _).mono ?_
      rintro e w1 ⟨rfl, rfl⟩
      go_wp2
      go_ret
      exact ⟨ret_bool E.out.symm, HB0.out⟩
  · have C3 := hide (fun w => l1In_any pk 1 4 w false (iff_of_false (by simp) h1))
    have E := hide (bool_noT HBB.out (fun h => by have := okP_kind h; simp only at this; omega))
    clear h1 h3 h5 h7
    go_enter Try.func128, Try.ntmps128
    go_wp2_with fail
    refine (C1.out _).mono ?_
    rintro e w1 ⟨rfl, rfl⟩
    go_wp2_with fail
    refine (C2.out _).mono ?_
    rintro e w1 ⟨rfl, rfl⟩
    go_wp2_with fail
    refine (C3.out _).mono ?_
    rintro e w1 ⟨rfl, rfl⟩
    go_wp2
    go_ret
    exact ⟨ret_bool E.out.symm, HB0.out⟩

/-- A list of counts in new memory. -/
abbrev rowN (g m : Nat) (ys : List Int) (w : World) (base : Nat) : Prop := w.ownsRow base 3 1 (.slice (some ⟨g, 0, none⟩) m m) m (ys.map (Value.int .i64))
set_option maxRecDepth 100000 in
set_option maxHeartbeats 8000000 in
theorem specGoodForm_any (a : Option Addr) (l : List Pr) (n cap : Nat) (w : World) (hn : l.length = n) (hs : SlP w a l) (hn2 : n ≤ 1048576) (hst : TxP l) (bb : Bool) (hbb : bb = true ↔ GoodF l) :
    Calls Try.prog 85 #[.slice a n cap] w fun e w' => e = .returned (.bool bb) ∧ Below w.heap.size w w' := by
  obtain ⟨i0, hi, hz0, hz1, hz2⟩ := info_parts info_int
  obtain ⟨w1, hmk, hown1, hg1⟩ := run_make_full (P := Try.prog) w w.heap.size 23 3 i0 (.int .i64 0) 1 Try.underlying23 hi hz0 hz1 .i64 .i64 n (by rw [hz2]; omega) (by unfold maxLen; omega) (Nat.le_refl _)
  rw [made_ints] at hown1
  have hb1 : Below w.heap.size w w1 := (Below.refl _ _).grown hg1 (Nat.le_refl _) (fun k hk => by cases hk)
  have HZ1 : Hid (w.heap.size < w1.heap.size) := hide (hown1.lt _ rfl).2
  have HNEW := hide hown1
  have HBN := hide hb1
  have HBB := hide hbb
  have HST := hide hst
  have HS := hide hs
  have HN := hide hn
  clear hown1 hg1 hs hn hbb hst hb1 hi hz0 hz1 hz2
  go_enter Try.func85, Try.ntmps85
  go_wp2
  go_loopw [13] (fun i wr => ∃ (k : Nat) (ys : List Int), k ≤ n ∧ i = .int .i64 k ∧ Hid (∀ j, j < k → okP j (l.getD j eP)) ∧ Hid (Cnt n (fun i => cnt (l.take k) i) ys) ∧ Hid (rowN w.heap.size n ys wr w.heap.size) ∧ Hid (Below w.heap.size w wr) ∧ Hid (w.heap.size < wr.heap.size)) (fun i _ => n - (intOf i).toNat)
  case atStart => exact ⟨0, List.replicate n 0, Nat.zero_le _, rfl, fun j hj => absurd hj (Nat.not_lt_zero _), ⟨by simp, fun i hi => by rw [rep0]; simp [cnt]⟩, HNEW.out, HBN.out, HZ1⟩
  case round =>
    obtain ⟨k, ys, hk, rfl, HJ, HY, HR, HB, HZ⟩ := hrel
    by_cases hlt : k < n
    · obtain ⟨b, off, rfl, hA0⟩ := HS.out k (by rw [HN.out]; exact hlt)
      have hA := hA0.base HB.out (blk_lt hA0.k)
      have hsx := HST.out k (by rw [HN.out]; exact hlt)
      have hstep : ∀ i : Int, cnt (l.take (k + 1)) i = cnt (l.take k) i + nm (l.getD k eP) i := fun i => by rw [take_snoc l k (by rw [HN.out]; exact hlt), cnt_snoc]
      obtain ⟨⟨pk, pt, pa, pb⟩, hp⟩ : ∃ p, p = l.getD k eP := ⟨_, rfl⟩
      rw [← hp] at hA hsx hstep
      simp only at hsx
      have hc0 := hA.k
      have hc1 := hA.t
      have hc2 := hA.a
      have hc3 := hA.b
      simp only at hc0 hc1 hc2 hc3
      have hltI : (k : Int) < (n : Int) := by omega
      have HP := hide hp.symm
      have HSTEP := hide hstep
      have HSZ : Hid (wr.heap.size < (wr.alloc (.cells #[.int .i64 pk, .string pt, .int .i64 pa, .int .i64 pb] 116)).heap.size) := by refine hide ?_; simp
      have HPB : Hid (AtP (wr.alloc (.cells #[.int .i64 pk, .string pt, .int .i64 pa, .int .i64 pb] 116)) wr.heap.size 0 ⟨pk, pt, pa, pb⟩) := by
        refine hide ⟨?_, ?_, ?_, ?_⟩ <;> simp
      have B1 := hide (HB.out.alloc HB.out.size (.cells #[.int .i64 pk, .string pt, .int .i64 pa, .int .i64 pb] 116))
      have R1 := hide (HR.out.alloc (.cells #[.int .i64 pk, .string pt, .int .i64 pa, .int .i64 pb] 116))
      clear hA0 hA hp hstep
      by_cases hok : okP k ⟨pk, pt, pa, pb⟩
      · have C := hide (fun w => l5Part_any ⟨pk, pt, pa, pb⟩ k w hsx (by omega) true (iff_of_true rfl hok))
        have HJ2 : Hid (∀ j, j < k + 1 → okP j (l.getD j eP)) := by
          intro i hi
          by_cases e : i = k
          · subst e; rw [HP.out]; exact hok
          · exact HJ.out i (by omega)
        go_wp2_with fail
        refine (C.out _).mono ?_
        rintro e w2 ⟨rfl, hb2⟩
        have P1 := HPB.out.base hb2 HSZ.out
        have d0 := P1.k
        have d1 := P1.t
        have d2 := P1.a
        have d3 := P1.b
        simp only [Nat.zero_add] at d0 d1 d2 d3
        have B2 := hide (B1.out.trans (hb2.mono B1.out.size))
        have R2 := hide (own_belowT R1.out hb2)
        have Z2 : Hid (w.heap.size < w2.heap.size) := hide (by have h1 := HZ.out; have h2 := HSZ.out; have h3 := hb2.size; omega)
        have hne : ¬ wr.heap.size = w.heap.size := by have := HZ.out; omega
        clear hb2 P1 hc0 hc1 hc2 hc3
        have hrange : ∀ (zs : List Int) (q : Nat) (f : Int → Int), zs.getD q 0 = cnt (l.take k) (q : Int) + f (q : Int) → 0 ≤ f (q : Int) → f (q : Int) ≤ 1 → 0 ≤ zs.getD q 0 ∧ zs.getD q 0 ≤ 100000000 := fun zs q f e h0 h1 => by
          have h2 := cnt_range (l.take k) (q : Int)
          simp only [List.length_take] at h2
          omega
        have HRG := hide hrange
        clear hrange
        by_cases h5 : pk = 5 ∨ pk = 6
        · have hk5 := (ok5 h5).1 hok
          obtain ⟨qa, hqa⟩ : ∃ q : Nat, pa = (q : Int) := ⟨pa.toNat, by omega⟩
          obtain ⟨qb, hqb⟩ : ∃ q : Nat, pb = (q : Int) := ⟨pb.toNat, by omega⟩
          subst hqa
          subst hqb
          have hqan : qa < n := by omega
          have hqbn : qb < n := by omega
          have hqaI : (qa : Int) < (n : Int) := by omega
          have hqbI : (qb : Int) < (n : Int) := by omega
          have C5 := hide (fun w => l5Two_any pk w true (iff_of_true rfl h5))
          have hnm := nm_two (p := ⟨pk, pt, (qa : Int), (qb : Int)⟩) h5
          have hz : ys.getD qb 0 = cnt (l.take k) (qb : Int) + 0 := (show ys.getD qb 0 = cnt (l.take k) (qb : Int) from HY.out.2 qb hqbn).trans (by omega)
          have hzr := HRG.out ys qb (fun _ => 0) hz (by omega) (by omega)
          have hcz := R2.out.cellAt qb (by omega)
          rw [ints_get (by rw [HY.out.1]; exact hqbn)] at hcz
          have hfr := R2.out.frozenAt qb
          have hst := R2.out.stored qb (.int .i64 (ys.getD qb 0 + 1))
          have hbump := HY.out.bump (qb : Int) (by omega) (g := fun i => cnt (l.take k) i + (if (qb : Int) = i then 1 else 0)) (fun i => rfl)
          simp only [Int.toNat_natCast] at hbump
          have R3 : Hid (rowN w.heap.size n (ys.set qb (ys.getD qb 0 + 1)) (w2.setCell ⟨w.heap.size, qb, none⟩ (.int .i64 (ys.getD qb 0 + 1))) w.heap.size) := hide (by rw [rowN, List.map_set]; exact hst.1)
          have B3 := hide (B2.out.setCell (p := ⟨w.heap.size, qb, none⟩) (Nat.le_refl _) (.int .i64 (ys.getD qb 0 + 1)))
          have Z3 : Hid (w.heap.size < (w2.setCell ⟨w.heap.size, qb, none⟩ (.int .i64 (ys.getD qb 0 + 1))).heap.size) := by refine hide ?_; simpa using Z2.out
          have HBUMP := hide hbump
          obtain ⟨c, hc⟩ : ∃ c, c = ys.getD qb 0 := ⟨_, rfl⟩
          rw [← hc] at hcz hzr R3 B3 Z3 HBUMP
          obtain ⟨hz0, hz1⟩ := hzr
          have HNM := hide hnm
          have HC := hide hc
          obtain ⟨zs, hzs⟩ : ∃ zs, zs = ys.set qb (c + 1) := ⟨_, rfl⟩
          rw [← hzs] at R3 HBUMP
          have hya : zs.getD qa 0 = cnt (l.take k) (qa : Int) + (if (qb : Int) = (qa : Int) then 1 else 0) := HBUMP.out.2 qa hqan
          have hyr := HRG.out zs qa (fun _ => if (qb : Int) = (qa : Int) then 1 else 0) hya (by split <;> omega) (by split <;> omega)
          have hcy := R3.out.cellAt qa (by omega)
          rw [ints_get (by rw [HBUMP.out.1]; exact hqan)] at hcy
          have hfy := R3.out.frozenAt qa
          have hsy := R3.out.stored qa (.int .i64 (zs.getD qa 0 + 1))
          have hbump2 := HBUMP.out.bump (qa : Int) (by omega) (g := fun i => cnt (l.take (k + 1)) i) (fun i => by rw [HSTEP.out, HNM.out]; simp only; omega)
          simp only [Int.toNat_natCast] at hbump2
          have R4 : Hid (rowN w.heap.size n (zs.set qa (zs.getD qa 0 + 1)) ((w2.setCell ⟨w.heap.size, qb, none⟩ (.int .i64 (c + 1))).setCell ⟨w.heap.size, qa, none⟩ (.int .i64 (zs.getD qa 0 + 1))) w.heap.size) := hide (by rw [rowN, List.map_set]; exact hsy.1)
          have B4 := hide (B3.out.setCell (p := ⟨w.heap.size, qa, none⟩) (Nat.le_refl _) (.int .i64 (zs.getD qa 0 + 1)))
          have Z4 : Hid (w.heap.size < ((w2.setCell ⟨w.heap.size, qb, none⟩ (.int .i64 (c + 1))).setCell ⟨w.heap.size, qa, none⟩ (.int .i64 (zs.getD qa 0 + 1))).heap.size) := by refine hide ?_; simpa using Z2.out
          have HBUMP2 := hide hbump2
          obtain ⟨y, hy⟩ : ∃ y, y = zs.getD qa 0 := ⟨_, rfl⟩
          rw [← hy] at hcy hyr R4 B4 Z4 HBUMP2
          obtain ⟨hy0, hy1⟩ := hyr
          have HKEEP := hide (And.intro hcy hfy)
          clear hc hbump hst hz hnm hzs hya hsy hbump2 hy hok hk5 hcy hfy h5
          go_wp2_with fail
          refine (C5.out _).mono ?_
          rintro e w3 ⟨rfl, rfl⟩
          go_wp2_with fail
          refine (C5.out _).mono ?_
          rintro e w3 ⟨rfl, rfl⟩
          have hcy := HKEEP.out.1
          have hfy := HKEEP.out.2
          go_wp2
          go_roundw
          case rel => exact ⟨k + 1, _, by omega, by go_num, HJ2, HBUMP2, R4, B4, Z4⟩
          case measure => simp [intOf]; omega
        have C5 := hide (fun w => l5Two_any pk w false (iff_of_false (by simp) h5))
        by_cases h7 : pk = 7 ∨ pk = 8
        · have hk7 := (ok7 h7).1 hok
          obtain ⟨qa, hqa⟩ : ∃ q : Nat, pa = (q : Int) := ⟨pa.toNat, by omega⟩
          subst hqa
          have hqan : qa < n := by omega
          have hqaI : (qa : Int) < (n : Int) := by omega
          have C7 := hide (fun w => l5One_any pk w true (iff_of_true rfl h7))
          have hnm := nm_one (p := ⟨pk, pt, (qa : Int), pb⟩) h7
          have hz : ys.getD qa 0 = cnt (l.take k) (qa : Int) + 0 := (show ys.getD qa 0 = cnt (l.take k) (qa : Int) from HY.out.2 qa hqan).trans (by omega)
          have hzr := HRG.out ys qa (fun _ => 0) hz (by omega) (by omega)
          have hcz := R2.out.cellAt qa (by omega)
          rw [ints_get (by rw [HY.out.1]; exact hqan)] at hcz
          have hfr := R2.out.frozenAt qa
          have hst := R2.out.stored qa (.int .i64 (ys.getD qa 0 + 1))
          have hbump := HY.out.bump (qa : Int) (by omega) (g := fun i => cnt (l.take (k + 1)) i) (fun i => by rw [HSTEP.out, hnm])
          simp only [Int.toNat_natCast] at hbump
          have R3 : Hid (rowN w.heap.size n (ys.set qa (ys.getD qa 0 + 1)) (w2.setCell ⟨w.heap.size, qa, none⟩ (.int .i64 (ys.getD qa 0 + 1))) w.heap.size) := hide (by rw [rowN, List.map_set]; exact hst.1)
          have B3 := hide (B2.out.setCell (p := ⟨w.heap.size, qa, none⟩) (Nat.le_refl _) (.int .i64 (ys.getD qa 0 + 1)))
          have Z3 : Hid (w.heap.size < (w2.setCell ⟨w.heap.size, qa, none⟩ (.int .i64 (ys.getD qa 0 + 1))).heap.size) := by refine hide ?_; simpa using Z2.out
          have HBUMP := hide hbump
          obtain ⟨c, hc⟩ : ∃ c, c = ys.getD qa 0 := ⟨_, rfl⟩
          rw [← hc] at hcz hzr R3 B3 Z3 HBUMP
          obtain ⟨hz0, hz1⟩ := hzr
          clear hc hbump hst hz hnm hok hk7 h5 h7
          go_wp2_with fail
          refine (C5.out _).mono ?_
          rintro e w3 ⟨rfl, rfl⟩
          go_wp2_with fail
          refine (C5.out _).mono ?_
          rintro e w3 ⟨rfl, rfl⟩
          go_wp2_with fail
          refine (C7.out _).mono ?_
          rintro e w3 ⟨rfl, rfl⟩
          go_wp2
          go_roundw
          case rel => exact ⟨k + 1, _, by omega, by go_num, HJ2, HBUMP, R3, B3, Z3⟩
          case measure => simp [intOf]; omega
        have C7 := hide (fun w => l5One_any pk w false (iff_of_false (by simp) h7))
        have hnm : ∀ i, nm ⟨pk, pt, pa, pb⟩ i = 0 := nm_no (p := ⟨pk, pt, pa, pb⟩) (by have := okP_kind hok; simp only at this ⊢; omega)
        have HY2 : Hid (Cnt n (fun i => cnt (l.take (k + 1)) i) ys) := hide ⟨HY.out.1, fun i hi => by
          have h : ys.getD i 0 = cnt (l.take k) (i : Int) := HY.out.2 i hi
          show _ = cnt (l.take (k + 1)) (i : Int)
          rw [h, HSTEP.out, hnm]
          omega⟩
        clear hok h5 h7 hnm
        go_wp2_with fail
        refine (C5.out _).mono ?_
        rintro e w3 ⟨rfl, rfl⟩
        go_wp2_with fail
        refine (C5.out _).mono ?_
        rintro e w3 ⟨rfl, rfl⟩
        go_wp2_with fail
        refine (C7.out _).mono ?_
        rintro e w3 ⟨rfl, rfl⟩
        go_wp2
        go_roundw
        case rel => exact ⟨k + 1, ys, by omega, by go_num, HJ2, HY2, R2, B2, Z2⟩
        case measure => simp [intOf]; omega
      · have C := hide (fun w => l5Part_any ⟨pk, pt, pa, pb⟩ k w hsx (by omega) false (iff_of_false (by simp) hok))
        have hno : ¬ GoodF l := fun h => hok (by have := h.2.1 k (by rw [HN.out]; exact hlt); rw [HP.out] at this; exact this)
        have HNO := hide hno
        clear hok hsx hno
        go_wp2_with fail
        refine (C.out _).mono ?_
        rintro e w1 ⟨rfl, hb1⟩
        have B2 := hide (B1.out.trans (hb1.mono B1.out.size))
        clear hb1
        go_wp2
        go_ret
        exact ⟨by rw [bool_noT HBB.out HNO.out]; rfl, B2.out⟩
    · obtain rfl : k = n := by omega
      have hltI : ¬ (k : Int) < (k : Int) := by omega
      have HG : Hid (GoodF l ↔ (∀ i : Nat, i + 1 < k → ys.getD i 0 = 1) ∧ 1 ≤ k ∧ k ≤ 24) := hide (by
        have hN := HN.out
        have hY : ∀ i : Nat, i + 1 < k → ys.getD i 0 = cnt l (i : Int) := fun i hi => by
          rw [HY.out.2 i (by omega), ← hN, List.take_length]
        constructor
        · intro h
          refine ⟨fun i hi => ?_, by have := h.1; omega⟩
          rw [hY i hi]
          exact h.2.2 i (by omega)
        · intro h
          exact ⟨by omega, fun j hj => HJ.out j (by omega), fun i hi => by rw [← hY i (by omega)]; exact h.1 i (by omega)⟩)
      go_wp2
      go_loopw [50] (fun i wr' => ∃ (j : Nat), j ≤ k ∧ i = .int .i64 j ∧ wr' = wr ∧ Hid (∀ i : Nat, i < j → i + 1 < k → ys.getD i 0 = 1)) (fun i _ => k - (intOf i).toNat)
      case atStart => exact ⟨0, Nat.zero_le _, rfl, by first | rfl | trivial, fun j hj => absurd hj (Nat.not_lt_zero _)⟩
      case round =>
        obtain ⟨j, hj, rfl, rfl, HD⟩ := hrel
        by_cases hjm : j < k
        · have hjI : (j : Int) < (k : Int) := by omega
          have hcz := HR.out.cellAt j (by omega)
          rw [ints_get (by rw [HY.out.1]; omega)] at hcz
          obtain ⟨c, hc⟩ : ∃ c, c = ys.getD j 0 := ⟨_, rfl⟩
          rw [← hc] at hcz
          have HC := hide hc
          clear hc
          by_cases hl : (j : Int) < (k : Int) - 1
          · by_cases h1 : c = 1
            · subst h1
              go_wp2
              go_roundw
              case rel =>
                refine ⟨j + 1, by omega, by go_num, by first | rfl | trivial, ?_⟩
                intro i hi hi2
                by_cases e : i = j
                · subst e; exact HC.out.symm
                · exact HD.out i (by omega) hi2
              case measure => simp [intOf]; omega
            · have E := hide (bool_noT (HBB.out.trans HG.out) (fun h => h1 (by rw [HC.out]; exact h.1 j (by omega))))
              have h1b : (c == 1) = false := by simpa using h1
              clear h1
              go_wp2
              go_ret
              exact ⟨by rw [E.out]; rfl, HB.out⟩
          · go_wp2
            go_roundw
            case rel =>
              refine ⟨j + 1, by omega, by go_num, by first | rfl | trivial, ?_⟩
              intro i hi hi2
              exact HD.out i (by omega) hi2
            case measure => simp [intOf]; omega
        · have hjI : ¬ (j : Int) < (k : Int) := by omega
          have hgg : GoodF l ↔ 1 ≤ (k : Int) ∧ (k : Int) ≤ 24 := HG.out.trans ⟨fun h => by have := h.2; omega, fun h => ⟨fun i hi => HD.out i (by omega) hi, by omega⟩⟩
          have C := hide (fun w => l1In_any (k : Int) 1 24 w bb (HBB.out.trans hgg))
          clear hgg
          go_wp2_with fail
          refine (C.out _).mono ?_
          rintro e w3 ⟨rfl, rfl⟩
          go_wp2
          go_ret
          exact ⟨rfl, HB.out⟩
end Go.Proofs.Ytapffbbmofhpoab.L5

namespace Go.Proofs.Ytapffbbmofhpoab.L5
open Go.RowKit L1 L4
set_option linter.unusedVariables false

/-- A form turned. -/
def notP (l : List Pr) : List Pr := l ++ [⟨8, ByteArray.empty, (l.length : Int) - 1, 0⟩]
open Classical in
noncomputable def notRes (l : List Pr) : Option (List Pr) := if GoodF l ∧ l.length ≠ 24 then some (notP l) else none
theorem notRes_len (l : List Pr) : ((notRes l).getD []).length ≤ 24 := by
  unfold notRes
  split
  · rename_i h
    have h1 := h.1.1
    have h2 := h.2
    simp only [Option.getD_some, notP, List.length_append, List.length_cons, List.length_nil]
    omega
  · simp
/-- Parts that a call hands back, in new memory, and whether there are some. -/
def RetP (w : World) (r : Option (List Pr)) (e : Ending) (w' : World) : Prop :=
  ∃ v, e = .returned (.tuple #[v, .bool r.isSome]) ∧ w'.ownsRow w.heap.size 116 4 v (r.getD []).length (flatP (r.getD [])) ∧ Below w.heap.size w w'
theorem retP_none {w w' : World} (hb : Below w.heap.size w w') : RetP w none (.returned (.tuple #[.slice none 0 0, .bool false])) w' := ⟨_, rfl, World.ownsRow_nil _ _ _ _, hb⟩
theorem own_emptyP (w : World) (base : Nat) (hb : base ≤ w.heap.size) : (w.alloc (.cells #[] 116)).ownsRow base 116 4 (.slice (some ⟨w.heap.size, 0, none⟩) 0 0) 0 [] :=
  ⟨rfl, .inr ⟨w.heap.size, 0, #[], rfl, hb, by show (w.heap.push _)[w.heap.size]? = _; simp, Nat.le_refl _, by unfold maxLen; omega, rfl, rfl⟩⟩
theorem cell_four_new (w : World) (a b c d : Value) (t : TypeId) : ∀ j u, [a, b, c, d][j]? = some u → (w.alloc (.cells #[a, b, c, d] t)).cell? ((⟨w.heap.size, 0, none⟩ : Addr).add j) = some u := by
  intro j u h
  rw [addr_add]
  match j, h with
  | 0, h => simp at h; subst h; simp
  | 1, h => simp at h; subst h; simp
  | 2, h => simp at h; subst h; simp
  | 3, h => simp at h; subst h; simp
  | j + 4, h => simp at h

set_option maxRecDepth 100000 in
set_option maxHeartbeats 1000000 in
theorem cloneP_some (b off : Nat) (l : List Pr) (n cap : Nat) (w : World) (hn : l.length = n) (hs : SlP w (some ⟨b, off, none⟩) l) (hn2 : n ≤ 1048576) :
    Calls Try.prog 96 #[.slice (some ⟨b, off, none⟩) n cap] w fun e w' => ∃ g c, e = .returned (.slice (some ⟨g, 0, none⟩) n c) ∧ w'.ownsRow w.heap.size 116 4 (.slice (some ⟨g, 0, none⟩) n c) n (flatP l) ∧ Below w.heap.size w w' := by
  obtain ⟨i1, hi1, hy0, hy1, hy2⟩ := info_parts info_part
  have hnil : ∀ w, (binOp .eql 52 (.slice (some ⟨b, off, none⟩) n cap) (.slice none 0 0)).run Try.prog w = .ok (.bool false) w := fun w => Lib.run_eql_slice_nil w _ _ _ _ _ _ _ Try.underlying52
  have HS := hide hs
  have HN := hide hn
  clear hs hn
  go_enter Try.func96, Try.ntmps96
  go_wp2_with (first
    | (at_builtin; refine wpList_append_own _ rfl _ _ 52 rfl w.heap.size 116 i1 (.agg #[.int .i64 0, .string ByteArray.empty, .int .i64 0, .int .i64 0]) 4 40 Try.underlying52 hi1 hy0 hy1 hy2 rfl (by decide) (.slice (some ⟨w.heap.size, 0, none⟩) 0 0) 0 [] rfl (own_emptyP w _ (Nat.le_refl _)) ⟨b, off, none⟩ n cap (flatP l) rfl (by rw [flatP_len, HN.out]) (slP_cells (HS.out.below ((Below.refl _ _).alloc (Nat.le_refl _) _))) (flatP_one l) (by unfold maxLen; omega) (by omega) (by simp) ?_)
    | go_in)
  intro v3 w3 hown3 hgrow3 hnil3
  obtain ⟨g3, c3, rfl, _, _⟩ := own_some hown3 (by first | exact hnil3 | (intro e; have := (hnil3.1 e).1; cases this))
  have hb3 : Below w.heap.size w w3 := ((Below.refl _ _).alloc (Nat.le_refl _) _).grown hgrow3 (by simp) (fun g hg => by cases hg; exact Nat.le_refl _)
  try simp only [List.nil_append, Nat.zero_add] at hown3
  have O3 := hide hown3
  have B3 := hide hb3
  clear hown3 hgrow3 hnil3 hb3
  go_wp2
  go_ret
  exact ⟨g3, c3, rfl, O3.out, B3.out⟩

set_option maxRecDepth 100000 in
set_option maxHeartbeats 2000000 in
theorem implNotForm_any (a : Option Addr) (l : List Pr) (n cap : Nat) (w : World) (hn : l.length = n) (hs : SlP w a l) (hn2 : n ≤ 1048576) (hst : TxP l) (r : Option (List Pr)) (hr : r = notRes l) :
    Calls Try.prog 39 #[.slice a n cap] w fun e w' => RetP w r e w' := by
  by_cases hg : GoodF l
  · have C1 := hide (goodForm_any a l n cap w hn hs hn2 hst true (iff_of_true rfl hg))
    by_cases h24 : n = 24
    · subst h24
      have hr' : r = none := by rw [hr]; unfold notRes; rw [if_neg (fun h => h.2 hn)]
      subst hr'
      clear hr hn hs hst hg
      go_enter Try.func39, Try.ntmps39
      go_wp2_with fail
      refine C1.out.mono ?_
      rintro e w1 ⟨rfl, hb1⟩
      go_wp2
      go_ret2
      exact retP_none hb1
    · obtain ⟨i1, hi1, hy0, hy1, hy2⟩ := info_parts info_part
      have hr' : r = some (notP l) := by rw [hr]; unfold notRes; rw [if_pos ⟨hg, by omega⟩]
      have HR := hide hr'
      have hl1 := hg.1
      obtain ⟨b, off, rfl, _⟩ := hs 0 (by omega)
      have C2 := hide (fun w hs => cloneP_some b off l n cap w hn hs hn2)
      have HS := hide hs
      have HN := hide hn
      have h24' : ((n : Int) == 24) = false := by simp; omega
      rw [hn] at hl1
      clear hr hr' hn hs hst hg h24
      go_enter Try.func39, Try.ntmps39
      go_wp2_with fail
      refine C1.out.mono ?_
      rintro e w1 ⟨rfl, hb1⟩
      have B1 := hide hb1
      clear hb1
      go_wp2_with fail
      refine (C2.out _ (HS.out.below B1.out)).mono ?_
      rintro e w2 ⟨g, c, rfl, ho2, hb2⟩
      have O2 := hide (own_baseT ho2 B1.out.size)
      have B2 := hide (B1.out.trans (hb2.mono B1.out.size))
      have hsz := B2.out.size
      clear ho2 hb2
      go_wp2_with (first
        | (at_builtin; refine wpList_append_own _ rfl _ _ 52 rfl w.heap.size 116 i1 (.agg #[.int .i64 0, .string ByteArray.empty, .int .i64 0, .int .i64 0]) 4 40 Try.underlying52 hi1 hy0 hy1 hy2 rfl (by decide) _ _ _ rfl (O2.out.alloc _) ⟨w2.heap.size, 0, none⟩ 1 1 [.int .i64 8, .string ByteArray.empty, .int .i64 ((n : Int) - 1), .int .i64 0] rfl rfl (cell_four_new _ _ _ _ _ _) (by intro u hu; simp at hu; rcases hu with rfl | rfl | rfl | rfl <;> rfl) (by unfold maxLen; omega) (by omega) (by simp; omega) ?_)
        | go_in)
      intro v3 w3 hown3 hgrow3 _
      have hb3 := B2.out.trans (((Below.refl _ _).alloc hsz _).grown hgrow3 (by simp; omega) (fun g hg => (O2.out.lt g hg).1))
      have hown4 : w3.ownsRow w.heap.size 116 4 v3 (notP l).length (flatP (notP l)) := by
        unfold notP
        rw [flatP_append, List.length_append, HN.out]
        simpa [flatP] using hown3
      obtain ⟨a3, c3, rfl⟩ := own_shapeT hown3
      have O3 := hide hown4
      have B3 := hide hb3
      clear hown3 hgrow3 hb3 hown4
      go_wp2
      go_ret2
      exact ⟨_, by rw [HR.out]; rfl, by rw [HR.out]; exact O3.out, B3.out⟩
  · have C1 := hide (goodForm_any a l n cap w hn hs hn2 hst false (iff_of_false (by simp) hg))
    have hr' : r = none := by rw [hr]; unfold notRes; rw [if_neg (fun h => hg h.1)]
    subst hr'
    clear hr hn hs hst hg
    go_enter Try.func39, Try.ntmps39
    go_wp2_with fail
    refine C1.out.mono ?_
    rintro e w1 ⟨rfl, hb1⟩
    go_wp2
    go_ret2
    exact retP_none hb1

set_option maxRecDepth 100000 in
set_option maxHeartbeats 2000000 in
theorem specNotForm_any (a : Option Addr) (l : List Pr) (n cap : Nat) (w : World) (hn : l.length = n) (hs : SlP w a l) (hn2 : n ≤ 1048576) (hst : TxP l) (r : Option (List Pr)) (hr : r = notRes l) :
    Calls Try.prog 54 #[.slice a n cap] w fun e w' => RetP w r e w' := by
  by_cases hg : GoodF l
  · have C1 := hide (specGoodForm_any a l n cap w hn hs hn2 hst true (iff_of_true rfl hg))
    by_cases h24 : n = 24
    · subst h24
      have hr' : r = none := by rw [hr]; unfold notRes; rw [if_neg (fun h => h.2 hn)]
      subst hr'
      clear hr hn hs hst hg
      go_enter Try.func54, Try.ntmps54
      go_wp2_with fail
      refine C1.out.mono ?_
      rintro e w1 ⟨rfl, hb1⟩
      go_wp2
      go_ret2
      exact retP_none hb1
    · obtain ⟨i1, hi1, hy0, hy1, hy2⟩ := info_parts info_part
      have hr' : r = some (notP l) := by rw [hr]; unfold notRes; rw [if_pos ⟨hg, by omega⟩]
      have HR := hide hr'
      have hl1 := hg.1
      obtain ⟨b, off, rfl, _⟩ := hs 0 (by omega)
      have HS := hide hs
      have HN := hide hn
      have h24' : ((n : Int) == 24) = false := by simp; omega
      rw [hn] at hl1
      clear hr hr' hn hs hst hg h24
      go_enter Try.func54, Try.ntmps54
      go_wp2_with fail
      refine C1.out.mono ?_
      rintro e w1 ⟨rfl, hb1⟩
      have B1 := hide hb1
      have S1 := hide (HS.out.below hb1)
      have hz1 := hb1.size
      have E1 := hide (own_emptyP w1 w.heap.size hb1.size)
      clear hb1
      go_wp2_with (first
        | (at_builtin; refine wpList_append_own _ rfl _ _ 52 rfl w.heap.size 116 i1 (.agg #[.int .i64 0, .string ByteArray.empty, .int .i64 0, .int .i64 0]) 4 40 Try.underlying52 hi1 hy0 hy1 hy2 rfl (by decide) (.slice (some ⟨w1.heap.size, 0, none⟩) 0 0) 0 [] rfl E1.out ⟨b, off, none⟩ n cap (flatP l) rfl (by rw [flatP_len, HN.out]) (slP_cells (S1.out.below ((Below.refl _ _).alloc (Nat.le_refl _) _))) (flatP_one l) (by unfold maxLen; omega) (by omega) (by simp; omega) ?_)
        | go_in)
      intro v2 w2 hown2 hgrow2 _
      have hb2 := B1.out.trans (((Below.refl _ _).alloc hz1 _).grown hgrow2 (by simp; omega) (fun g hg => by cases hg; exact hz1))
      obtain ⟨a2, c2, rfl⟩ := own_shapeT hown2
      try simp only [List.nil_append, Nat.zero_add] at hown2
      have O2 := hide hown2
      have B2 := hide hb2
      have hsz := hb2.size
      clear hown2 hgrow2 hb2
      go_wp2_with (first
        | (at_builtin; refine wpList_append_own _ rfl _ _ 52 rfl w.heap.size 116 i1 (.agg #[.int .i64 0, .string ByteArray.empty, .int .i64 0, .int .i64 0]) 4 40 Try.underlying52 hi1 hy0 hy1 hy2 rfl (by decide) _ _ _ rfl (O2.out.alloc _) ⟨w2.heap.size, 0, none⟩ 1 1 [.int .i64 8, .string ByteArray.empty, .int .i64 ((n : Int) - 1), .int .i64 0] rfl rfl (cell_four_new _ _ _ _ _ _) (by intro u hu; simp at hu; rcases hu with rfl | rfl | rfl | rfl <;> rfl) (by unfold maxLen; omega) (by omega) (by simp; omega) ?_)
        | go_in)
      intro v3 w3 hown3 hgrow3 _
      have hb3 := B2.out.trans (((Below.refl _ _).alloc hsz _).grown hgrow3 (by simp; omega) (fun g hg => (O2.out.lt g hg).1))
      have hown4 : w3.ownsRow w.heap.size 116 4 v3 (notP l).length (flatP (notP l)) := by
        unfold notP
        rw [flatP_append, List.length_append, HN.out]
        simpa [flatP] using hown3
      obtain ⟨a3, c3, rfl⟩ := own_shapeT hown3
      have O3 := hide hown4
      have B3 := hide hb3
      clear hown3 hgrow3 hb3 hown4
      go_wp2
      go_ret2
      exact ⟨_, by rw [HR.out]; rfl, by rw [HR.out]; exact O3.out, B3.out⟩
  · have C1 := hide (specGoodForm_any a l n cap w hn hs hn2 hst false (iff_of_false (by simp) hg))
    have hr' : r = none := by rw [hr]; unfold notRes; rw [if_neg (fun h => hg h.1)]
    subst hr'
    clear hr hn hs hst hg
    go_enter Try.func54, Try.ntmps54
    go_wp2_with fail
    refine C1.out.mono ?_
    rintro e w1 ⟨rfl, hb1⟩
    go_wp2
    go_ret2
    exact retP_none hb1
end Go.Proofs.Ytapffbbmofhpoab.L5

namespace Go.Proofs.Ytapffbbmofhpoab.L5
open Go.RowKit L1 L4
set_option linter.unusedVariables false

open Classical in
noncomputable def leftRes (l : List Pr) (c : Int) : Option (List Pr) := if GoodF l ∧ okc c ∧ (flat (left (whole l) c) []).length ≤ 24 then some (flat (left (whole l) c) []) else none
theorem leftRes_len (l : List Pr) (c : Int) : ((leftRes l c).getD []).length ≤ 24 := by
  unfold leftRes
  split
  · rename_i h; exact h.2.2
  · simp
theorem left_bound {l : List Pr} (hg : GoodF l) (c : Int) : sz (left (whole l) c) ≤ 1000 := by
  have h1 := whole_size hg
  have h2 := hg.1
  have h3 := sz_left (whole l) c 24 (by omega)
  omega
theorem retP_of {w w1 w' : World} {v : Value} {l : List Pr} (hb : Below w.heap.size w w1) (ho : OwP w' w.heap.size v l) (hg : w1.grownBy w' none) : RetP w (some l) (.returned (.tuple #[v, .bool true])) w' :=
  ⟨v, rfl, ho, hb.grown hg hb.size (fun k hk => by cases hk)⟩
set_option maxRecDepth 100000 in
set_option maxHeartbeats 4000000 in
theorem implLeftOf_any (a : Option Addr) (l : List Pr) (n cap : Nat) (c : Int) (hc : 0 ≤ c ∧ c ≤ 255) (w : World) (hn : l.length = n) (hs : SlP w a l) (hn2 : n ≤ 1048576) (hst : TxP l) (r : Option (List Pr)) (hr : r = leftRes l c) :
    Calls Try.prog 38 #[.slice a n cap, .int .u8 c] w fun e w' => RetP w r e w' := by
  obtain ⟨hc0, hc1⟩ := hc
  by_cases hg : GoodF l
  · have C1 := hide (goodForm_any a l n cap w hn hs hn2 hst true (iff_of_true rfl hg))
    by_cases hl : okc c
    · have C2 := hide (fun w => isLetter_any c w true (iff_of_true rfl hl))
      have C3 := hide (fun w hs => shapeOf_any a l n cap w hn hs hg)
      have hok := okS_left (whole l) c (okS_whole hg)
      have hbd := left_bound hg c
      have hlen := flat_len (left (whole l) c) []
      simp only [List.length_nil, Nat.zero_add] at hlen
      have hr' : r = if (flat (left (whole l) c) []).length ≤ 24 then some (flat (left (whole l) c) []) else none := by
        rw [hr]; unfold leftRes
        by_cases h : (flat (left (whole l) c) []).length ≤ 24
        · rw [if_pos ⟨hg, hl, h⟩, if_pos h]
        · rw [if_neg (fun x => h x.2.2), if_neg h]
      have C4 := hide (fun w => leftOf_any c (whole l) w)
      obtain ⟨X, hX⟩ : ∃ X, X = left (whole l) c := ⟨_, rfl⟩
      simp only [← hX] at hok hbd hlen hr' C4
      have C5 := hide (fun base w hb => partsOf_any X hok base (.slice none 0 0) [] w (World.ownsRow_nil _ _ _ _) hb (by simp; omega))
      obtain ⟨L, hL⟩ : ∃ L, L = flat X [] := ⟨_, rfl⟩
      simp only [← hL] at hlen hr' C5
      have HR := hide hr'
      have HS := hide hs
      have hL2 : (L.length : Int) ≤ 1000 := by omega
      clear hr hr' hn hs hst hg hl hok hX hL hbd hlen
      go_enter Try.func38, Try.ntmps38
      go_wp2_with fail
      refine C1.out.mono ?_
      rintro e w1 ⟨rfl, hb1⟩
      have B1 := hide hb1
      clear hb1
      go_wp2_with fail
      refine (C2.out _).mono ?_
      rintro e w1 ⟨rfl, rfl⟩
      go_wp2_with fail
      refine (C3.out _ (HS.out.below B1.out)).mono ?_
      rintro e w2 ⟨rfl, hb2⟩
      have B2 := hide (B1.out.trans (hb2.mono B1.out.size))
      clear hb2
      go_wp2_with fail
      refine (C4.out _).mono ?_
      rintro e w3 ⟨rfl, hb3⟩
      have B3 := hide (B2.out.trans (hb3.mono B2.out.size))
      clear hb3
      go_wp2_with fail
      refine (C5.out w.heap.size _ B3.out.size).mono ?_
      rintro e w4 ⟨v4, rfl, o4, g4, k4⟩
      have R4 := hide (retP_of B3.out o4 g4)
      have B4 := hide (B3.out.grown g4 B3.out.size (fun k hk => by cases hk))
      obtain ⟨x4, c4, rfl⟩ := own_shapeT o4
      clear o4 g4 k4
      by_cases h24 : (L.length : Int) ≤ 24
      · have HR2 : Hid (r = some L) := hide (by rw [HR.out, if_pos (by omega)])
        go_wp2
        go_ret2
        rw [HR2.out]
        exact R4.out
      · have HR2 : Hid (r = none) := hide (by rw [HR.out, if_neg (by omega)])
        go_wp2
        go_ret2
        rw [HR2.out]
        exact retP_none B4.out
    · have C2 := hide (fun w => isLetter_any c w false (iff_of_false (by simp) hl))
      have hr' : r = none := by rw [hr]; unfold leftRes; rw [if_neg (fun h => hl h.2.1)]
      subst hr'
      clear hr hn hs hst hg hl
      go_enter Try.func38, Try.ntmps38
      go_wp2_with fail
      refine C1.out.mono ?_
      rintro e w1 ⟨rfl, hb1⟩
      go_wp2_with fail
      refine (C2.out _).mono ?_
      rintro e w1 ⟨rfl, rfl⟩
      go_wp2
      go_ret2
      exact retP_none hb1
  · have C1 := hide (goodForm_any a l n cap w hn hs hn2 hst false (iff_of_false (by simp) hg))
    have hr' : r = none := by rw [hr]; unfold leftRes; rw [if_neg (fun h => hg h.1)]
    subst hr'
    clear hr hn hs hst hg
    go_enter Try.func38, Try.ntmps38
    go_wp2_with fail
    refine C1.out.mono ?_
    rintro e w1 ⟨rfl, hb1⟩
    go_wp2
    go_ret2
    exact retP_none hb1
set_option maxRecDepth 100000 in
set_option maxHeartbeats 4000000 in
theorem specLeftOf_any (a : Option Addr) (l : List Pr) (n cap : Nat) (c : Int) (hc : 0 ≤ c ∧ c ≤ 255) (w : World) (hn : l.length = n) (hs : SlP w a l) (hn2 : n ≤ 1048576) (hst : TxP l) (r : Option (List Pr)) (hr : r = leftRes l c) :
    Calls Try.prog 41 #[.slice a n cap, .int .u8 c] w fun e w' => RetP w r e w' := by
  obtain ⟨hc0, hc1⟩ := hc
  by_cases hg : GoodF l
  · have C1 := hide (specGoodForm_any a l n cap w hn hs hn2 hst true (iff_of_true rfl hg))
    by_cases hl1 : c < 97
    · have hr' : r = none := by rw [hr]; unfold leftRes; rw [if_neg (fun h => by have := h.2.1.1; omega)]
      subst hr'
      clear hr hn hs hst hg
      go_enter Try.func41, Try.ntmps41
      go_wp2_with fail
      refine C1.out.mono ?_
      rintro e w1 ⟨rfl, hb1⟩
      go_wp2
      go_ret2
      exact retP_none hb1
    by_cases hl2 : 122 < c
    · have hr' : r = none := by rw [hr]; unfold leftRes; rw [if_neg (fun h => by have := h.2.1.2; omega)]
      subst hr'
      clear hr hn hs hst hg
      go_enter Try.func41, Try.ntmps41
      go_wp2_with fail
      refine C1.out.mono ?_
      rintro e w1 ⟨rfl, hb1⟩
      go_wp2
      go_ret2
      exact retP_none hb1
    have hl : okc c := ⟨by omega, by omega⟩
    have C3 := hide (fun w hs => l5Tree_whole a l n cap w hn hg hs)
    have hok0 := okS_whole hg
    have hok := okS_left (whole l) c (okS_whole hg)
    have hbd := left_bound hg c
    have hlen := flat_len (left (whole l) c) []
    simp only [List.length_nil, Nat.zero_add] at hlen
    have hr' : r = if (flat (left (whole l) c) []).length ≤ 24 then some (flat (left (whole l) c) []) else none := by
      rw [hr]; unfold leftRes
      by_cases h : (flat (left (whole l) c) []).length ≤ 24
      · rw [if_pos ⟨hg, hl, h⟩, if_pos h]
      · rw [if_neg (fun x => h x.2.2), if_neg h]
    have C4 := hide (fun p w t => l5Left_any c (whole l) p w hok0 t)
    obtain ⟨X, hX⟩ : ∃ X, X = left (whole l) c := ⟨_, rfl⟩
    simp only [← hX] at hok hbd hlen hr' C4
    have C5 := hide (fun p base w t hb => l5Flat_any X Any p base (.slice none 0 0) [] w t (fun g _ e => by cases e) (World.ownsRow_nil _ _ _ _) hb (by simp; omega))
    obtain ⟨L, hL⟩ : ∃ L, L = flat X [] := ⟨_, rfl⟩
    simp only [← hL] at hlen hr' C5
    have HR := hide hr'
    have HS := hide hs
    have hL2 : (L.length : Int) ≤ 1000 := by omega
    have hnI : (1 : Int) ≤ (n : Int) := by have := hg.1; omega
    clear hr hr' hn hs hst hg hl hok hok0 hX hL hbd hlen
    go_enter Try.func41, Try.ntmps41
    go_wp2_with fail
    refine C1.out.mono ?_
    rintro e w1 ⟨rfl, hb1⟩
    have B1 := hide hb1
    clear hb1
    go_wp2_with fail
    refine (C3.out _ (HS.out.below B1.out)).mono ?_
    rintro e w2 ⟨p2, rfl, t2, hb2⟩
    have B2 := hide (B1.out.trans (hb2.mono B1.out.size))
    have T2 := hide t2.any
    clear hb2 t2
    go_wp2_with fail
    refine (C4.out _ _ T2.out).mono ?_
    rintro e w3 ⟨p3, rfl, t3, hb3⟩
    have B3 := hide (B2.out.trans (hb3.mono B2.out.size))
    have T3 := hide t3
    clear hb3 t3
    go_wp2_with fail
    refine (C5.out _ w.heap.size _ T3.out B3.out.size).mono ?_
    rintro e w4 ⟨v4, rfl, o4, g4, k4⟩
    have R4 := hide (retP_of B3.out o4 g4)
    have B4 := hide (B3.out.grown g4 B3.out.size (fun k hk => by cases hk))
    obtain ⟨x4, c4, rfl⟩ := own_shapeT o4
    clear o4 g4 k4
    by_cases h24 : (L.length : Int) ≤ 24
    · have HR2 : Hid (r = some L) := hide (by rw [HR.out, if_pos (by omega)])
      go_wp2
      go_ret2
      rw [HR2.out]
      exact R4.out
    · have HR2 : Hid (r = none) := hide (by rw [HR.out, if_neg (by omega)])
      go_wp2
      go_ret2
      rw [HR2.out]
      exact retP_none B4.out
  · have C1 := hide (specGoodForm_any a l n cap w hn hs hn2 hst false (iff_of_false (by simp) hg))
    have hr' : r = none := by rw [hr]; unfold leftRes; rw [if_neg (fun h => hg h.1)]
    subst hr'
    clear hr hn hs hst hg
    go_enter Try.func41, Try.ntmps41
    go_wp2_with fail
    refine C1.out.mono ?_
    rintro e w1 ⟨rfl, hb1⟩
    go_wp2
    go_ret2
    exact retP_none hb1
end Go.Proofs.Ytapffbbmofhpoab.L5

namespace Go.Proofs.Ytapffbbmofhpoab.L5
open Go.RowKit L1 L4
set_option linter.unusedVariables false

theorem info_str5 : (Try.prog.info? 9).map (fun i => (i.zero, i.size, i.bytes)) = some (some (.string ByteArray.empty), 1, 16) := by kernel_rfl
abbrev e0 : ByteArray := ByteArray.empty
/-- A list of texts lies in memory. -/
def SlT (w : World) (a : Option Addr) (xs : List ByteArray) : Prop := ∀ i, i < xs.length → ∃ b off, a = some ⟨b, off, none⟩ ∧ w.cell? ⟨b, off + i, none⟩ = some (.string (xs.getD i e0))
theorem SlT.below {w w' : World} {a : Option Addr} {xs : List ByteArray} (h : SlT w a xs) (hb : Below w.heap.size w w') : SlT w' a xs := fun i hi => by
  obtain ⟨b, off, ha, hc⟩ := h i hi
  exact ⟨b, off, ha, (hb.cell (p := ⟨b, off + i, none⟩) (blk_lt hc)).trans hc⟩
theorem slT_base {w w' : World} {a : Option Addr} {xs : List ByteArray} {base : Nat} (h : SlT w a xs) (hb : Below base w w') (hlt : ∀ x, a = some x → x.block < base) : SlT w' a xs := fun i hi => by
  obtain ⟨b, off, ha, hc⟩ := h i hi
  exact ⟨b, off, ha, (hb.cell (p := ⟨b, off + i, none⟩) (hlt ⟨b, off, none⟩ ha)).trans hc⟩
abbrev mapT (xs : List ByteArray) : List Value := xs.map Value.string
theorem mapT_get (xs : List ByteArray) (i : Nat) (h : i < xs.length) : (mapT xs)[i]? = some (.string (xs.getD i e0)) := by
  rw [List.getElem?_map, List.getElem?_eq_getElem h]
  simp [List.getD, List.getElem?_eq_getElem h]
abbrev OwT (w : World) (base : Nat) (v : Value) (xs : List ByteArray) : Prop := w.ownsRow base 9 1 v xs.length (mapT xs)
theorem own_formT {w : World} {base n : Nat} {v : Value} {xs : List ByteArray} (h : w.ownsRow base 9 1 v n (mapT xs)) : ∃ a cap, v = .slice a n cap ∧ SlT w a xs ∧ xs.length = n := by
  have hl := h.1
  simp at hl
  rcases h.2 with ⟨hv, h0⟩ | ⟨g, cap, cur, hv, _⟩
  · subst h0
    exact ⟨none, 0, hv, fun i hi => by omega, hl⟩
  · subst hv
    refine ⟨_, cap, rfl, fun i hi => ?_, hl⟩
    have := h.cells (g := g) rfl i _ (mapT_get xs i hi)
    rw [addr_add] at this
    exact ⟨g, 0, rfl, by simpa using this⟩
theorem own_slT {w : World} {base n cap : Nat} {a : Option Addr} {xs : List ByteArray} (h : w.ownsRow base 9 1 (.slice a n cap) n (mapT xs)) : SlT w a xs := by
  obtain ⟨b, q, e, s, _⟩ := own_formT h
  cases e
  exact s
theorem own_grownT {w w' : World} {base c n : Nat} {t : TypeId} {v : Value} {xs : List Value} {r : Option Nat} (h : w.ownsRow base t c v n xs) (hg : w.grownBy w' r) (hne : ∀ g, v.ownBlock = some g → r ≠ some g) : w'.ownsRow base t c v n xs := by
  refine ⟨h.1, ?_⟩
  rcases h.2 with h0 | ⟨g, cap, cur, hv, hb, hh, rest⟩
  · exact .inl h0
  · refine .inr ⟨g, cap, cur, hv, hb, ?_, rest⟩
    rw [hg.block g (Array.getElem?_eq_some_iff.1 hh).1 (fun e => hne g (by rw [hv]; rfl) e.symm)]
    exact hh
theorem mapT_one (xs : List ByteArray) : ∀ u ∈ mapT xs, u.oneCell' = true := fun u hu => by
  obtain ⟨x, _, rfl⟩ := List.mem_map.1 hu
  rfl
theorem cell_two_newT (w : World) (g : Nat) (hg : w.heap.size = g) (a b : Value) (t : TypeId) : ∀ j u, [a, b][j]? = some u → (w.alloc (.cells #[a, b] t)).cell? ((⟨g, 0, none⟩ : Addr).add j) = some u := by
  subst hg
  intro j u h
  rw [addr_add]
  match j, h with
  | 0, h => simp at h; subst h; simp
  | 1, h => simp at h; subst h; simp
  | j + 2, h => simp at h
theorem cell_one_newT (w : World) (g : Nat) (hg : w.heap.size = g) (a : Value) (t : TypeId) : ∀ j u, [a][j]? = some u → (w.alloc (.cells #[a] t)).cell? ((⟨g, 0, none⟩ : Addr).add j) = some u := by
  subst hg
  intro j u h
  rw [addr_add]
  match j, h with
  | 0, h => simp at h; subst h; simp
  | j + 1, h => simp at h
theorem own_litT (w : World) (s : ByteArray) (base : Nat) (hb : base ≤ w.heap.size) : OwT (w.alloc (.cells #[.string s] 9)) base (.slice (some ⟨w.heap.size, 0, none⟩) 1 1) [s] :=
  ⟨rfl, .inr ⟨w.heap.size, 1, _, rfl, hb, by show (w.heap.push _)[w.heap.size]? = _; exact Array.getElem?_push_size, Nat.le_refl _, by unfold maxLen; omega, rfl, rfl⟩⟩
/-- A text's next two. -/
def two (s : ByteArray) : List ByteArray := [s ++ (⟨#[97]⟩ : ByteArray), s ++ (⟨#[98]⟩ : ByteArray)]
def nx (ws : List ByteArray) : List ByteArray := ws.flatMap two
theorem nx_snoc (ws : List ByteArray) (s : ByteArray) : nx (ws ++ [s]) = nx ws ++ two s := by simp [nx]
theorem nx_len (ws : List ByteArray) : (nx ws).length = 2 * ws.length := by
  induction ws with
  | nil => rfl
  | cons s ws ih => simp only [nx, List.flatMap_cons, List.length_append, List.length_cons] at ih ⊢; simp only [two, List.length_cons, List.length_nil]; omega
/-- The texts of so many letters. -/
def rw5 : Nat → List ByteArray
  | 0 => [e0]
  | n + 1 => nx (rw5 n)
theorem rw5_len : ∀ n, (rw5 n).length = 2 ^ n
  | 0 => rfl
  | n + 1 => by rw [rw5, nx_len, rw5_len n, Nat.pow_succ]; omega
theorem bts_app (s t : ByteArray) : bts (s ++ t) 0 = bts s 0 ++ bts t 0 := by
  have e : (s ++ t).data.toList = s.data.toList ++ t.data.toList := by
    show (ByteArray.append s t).data.toList = _
    simp [ByteArray.append]
  simp only [bts, List.drop_zero, e, List.map_append]
theorem rw5_ok : ∀ n, ∀ s ∈ rw5 n, s.size = n ∧ ∀ c ∈ bts s 0, okc c
  | 0, s, h => by
    simp [rw5] at h
    subst h
    exact ⟨rfl, fun c hc => by simp [bts, e0] at hc⟩
  | n + 1, s, h => by
    simp only [rw5, nx, List.mem_flatMap, two, List.mem_cons, List.not_mem_nil, or_false] at h
    obtain ⟨t, ht, h⟩ := h
    have ih := rw5_ok n t ht
    rcases h with rfl | rfl
    · refine ⟨by rw [ByteArray.size_append, ih.1]; rfl, fun c hc => ?_⟩
      rw [bts_app, List.mem_append] at hc
      rcases hc with hc | hc
      · exact ih.2 c hc
      · simp [bts] at hc; subst hc; exact ⟨by decide, by decide⟩
    · refine ⟨by rw [ByteArray.size_append, ih.1]; rfl, fun c hc => ?_⟩
      rw [bts_app, List.mem_append] at hc
      rcases hc with hc | hc
      · exact ih.2 c hc
      · simp [bts] at hc; subst hc; exact ⟨by decide, by decide⟩
open Classical in
/-- Those that fit. -/
noncomputable def ft (x : Sh) (ws : List ByteArray) : List ByteArray := ws.filter fun s => decide (Mt x (bts s 0))
theorem ft_snoc (x : Sh) (ws : List ByteArray) (s : ByteArray) : ft x (ws ++ [s]) = ft x ws ++ ft x [s] := by simp [ft]
theorem ft_yes {x : Sh} {s : ByteArray} (h : Mt x (bts s 0)) : ft x [s] = [s] := by simp [ft, h]
theorem ft_no {x : Sh} {s : ByteArray} (h : ¬ Mt x (bts s 0)) : ft x [s] = [] := by simp [ft, h]
theorem ft_len (x : Sh) (ws : List ByteArray) : (ft x ws).length ≤ ws.length := by unfold ft; exact List.length_filter_le _ _
/-- Those of the first rows. -/
noncomputable def outW (x : Sh) : Nat → List ByteArray
  | 0 => []
  | n + 1 => outW x n ++ ft x (rw5 n)
theorem outW_len (x : Sh) : ∀ n, (outW x n).length + 1 ≤ 2 ^ n
  | 0 => by simp [outW]
  | n + 1 => by
    have h1 := outW_len x n
    have h2 := ft_len x (rw5 n)
    rw [rw5_len] at h2
    rw [outW, List.length_append, Nat.pow_succ]
    omega
open Classical in
noncomputable def wordsRes (l : List Pr) (long : Int) : Option (List ByteArray) := if GoodF l ∧ 0 ≤ long ∧ long ≤ 3 then some (outW (whole l) (long.toNat + 1)) else none
theorem wordsRes_len (l : List Pr) (long : Int) : ((wordsRes l long).getD []).length ≤ 16 := by
  unfold wordsRes
  split
  · rename_i h
    have h1 := outW_len (whole l) (long.toNat + 1)
    have h2 : 2 ^ (long.toNat + 1) ≤ 2 ^ 4 := Nat.pow_le_pow_right (by omega) (by omega)
    simp only [Option.getD_some]
    omega
  · simp
theorem takeT_snoc (l : List ByteArray) (i : Nat) (h : i < l.length) : l.take (i + 1) = l.take i ++ [l.getD i e0] := by
  rw [List.take_succ_eq_append_getElem h]
  simp [List.getD, List.getElem?_eq_getElem h]
theorem getT_mem (l : List ByteArray) (i : Nat) (h : i < l.length) : l.getD i e0 ∈ l := by
  simp [List.getD, List.getElem?_eq_getElem h]
/-- Texts that a call hands back, in new memory, and whether there are some. -/
def RetW (w : World) (r : Option (List ByteArray)) (e : Ending) (w' : World) : Prop :=
  ∃ v, e = .returned (.tuple #[v, .bool r.isSome]) ∧ w'.ownsRow w.heap.size 9 1 v (r.getD []).length (mapT (r.getD [])) ∧ Below w.heap.size w w'
theorem retW_none {w w' : World} (hb : Below w.heap.size w w') : RetW w none (.returned (.tuple #[.slice none 0 0, .bool false])) w' := ⟨_, rfl, World.ownsRow_nil _ _ _ _, hb⟩
end Go.Proofs.Ytapffbbmofhpoab.L5

namespace Go.Proofs.Ytapffbbmofhpoab.L5
open Go.RowKit L1 L4
set_option linter.unusedVariables false

theorem left_back {l L : List Pr} {c : Int} (h : leftRes l c = some L) : GoodF L ∧ whole L = left (whole l) c := by
  unfold leftRes at h
  split at h
  · rename_i hc
    rw [Option.some.injEq] at h
    subst h
    have hok := okS_left (whole l) c (okS_whole hc.1)
    exact ⟨good_flat _ hok (by have := hc.2.2; rw [flat_len] at this; simpa using this), whole_flat _ hok⟩
  · cases h
theorem not_back {l N : List Pr} (h : notRes l = some N) : GoodF N ∧ whole N = .inv (whole l) := by
  unfold notRes at h
  split at h
  · rename_i hc
    rw [Option.some.injEq] at h
    subst h
    obtain ⟨hg, h24⟩ := hc
    have hlen : (notP l).length = l.length + 1 := by simp [notP]
    have h1 := hg.1
    refine ⟨⟨by omega, fun j hj => ?_, fun i hi => ?_⟩, ?_⟩
    · by_cases e : j < l.length
      · rw [show (notP l).getD j eP = l.getD j eP by simp [notP, List.getD, List.getElem?_append_left e]]
        exact hg.2.1 j e
      · obtain rfl : j = l.length := by omega
        rw [show (notP l).getD l.length eP = ⟨8, ByteArray.empty, (l.length : Int) - 1, 0⟩ by simp [notP, List.getD]]
        exact .inr (.inr (.inr ⟨.inr rfl, rfl, ⟨by simp only; omega, by simp only; omega⟩, rfl⟩))
    · unfold notP
      rw [cnt_snoc]
      by_cases e : i + 1 < l.length
      · rw [hg.2.2 i e]
        simp only [nm]
        rw [if_neg (by simp), if_neg (by simp; omega)]
        rfl
      · have hi' : i = l.length - 1 := by omega
        have := cnt_high hg.2.1 l.length (Nat.le_refl _) i (by omega)
        rw [List.take_of_length_le (Nat.le_refl _)] at this
        rw [this]
        simp only [nm]
        rw [if_neg (by simp), if_pos ⟨by simp, by omega⟩]
        rfl
    · unfold whole
      rw [hlen, show l.length + 1 - 1 = l.length by omega]
      unfold T notP
      rw [made_snoc, getD_at _ _ _ _ _ (by rw [made_len])]
      simp only [shp]
      simp only [show ¬ ((8 : Int) = 2) by omega, show ¬ ((8 : Int) = 3) by omega, show ¬ ((8 : Int) = 4) by omega, show ¬ ((8 : Int) = 5) by omega, show ¬ ((8 : Int) = 6) by omega, show ¬ ((8 : Int) = 7) by omega, if_false, if_true]
      rw [show ((l.length : Int) - 1).toNat = l.length - 1 by omega]
  · cases h
theorem outW_mem {x : Sh} {t : ByteArray} : ∀ {n : Nat}, t ∈ outW x n → Mt x (bts t 0) ∧ t.size < n ∧ Let t
  | 0, h => by simp [outW] at h
  | n + 1, h => by
    simp only [outW, List.mem_append] at h
    rcases h with h | h
    · obtain ⟨h1, h2, h3⟩ := outW_mem h
      exact ⟨h1, by omega, h3⟩
    · unfold ft at h
      obtain ⟨h1, h2⟩ := List.mem_filter.1 h
      obtain ⟨h3, h4⟩ := rw5_ok n t h1
      refine ⟨by simpa using h2, by omega, fun k hk => h4 _ ?_⟩
      have hk' : k < (bts t 0).length := by rw [bts_len]; omega
      simp only [List.getD, List.getElem?_eq_getElem hk', Option.getD_some]
      exact List.getElem_mem hk'
theorem words_back {l : List Pr} {long : Int} {ws : List ByteArray} (h : wordsRes l long = some ws) : GoodF l ∧ ∀ j, j < ws.length → Mt (whole l) (bts (ws.getD j e0) 0) ∧ (ws.getD j e0).size ≤ 12 ∧ Let (ws.getD j e0) := by
  unfold wordsRes at h
  split at h
  · rename_i hc
    rw [Option.some.injEq] at h
    subst h
    refine ⟨hc.1, fun j hj => ?_⟩
    have hm : (outW (whole l) (long.toNat + 1)).getD j e0 ∈ outW (whole l) (long.toNat + 1) := by
      simp only [List.getD, List.getElem?_eq_getElem hj, Option.getD_some]
      exact List.getElem_mem hj
    obtain ⟨h1, h2, h3⟩ := outW_mem hm
    exact ⟨h1, by omega, h3⟩
  · cases h
/-- A text that has a first letter is that letter and the rest. -/
theorem bts_first {s : ByteArray} (h : 0 < s.size) : bts s 0 = (bts s 0).getD 0 0 :: (bts s 0).drop 1 := by
  have hl : 0 < (bts s 0).length := by rw [bts_len]; omega
  cases hb : bts s 0 with
  | nil => rw [hb] at hl; simp at hl
  | cons c r => simp
end Go.Proofs.Ytapffbbmofhpoab.L5

namespace Go.Proofs.Ytapffbbmofhpoab.L5
open Go.RowKit L1 L4
set_option linter.unusedVariables false

set_option maxRecDepth 100000 in
set_option maxHeartbeats 400000 in
theorem of_any (b N g m cap : Nat) (xs : List ByteArray) (w : World) (h : Cur w b N) (hN : N ≤ 1000000000) (hxs : xs.length = m) (h1 : 1 ≤ m) (h2 : m ≤ 1000) (hg : g ≠ b) (hs : SlT w (some ⟨g, 0, none⟩) xs) :
    Calls Try.prog 79 #[.pointer (some ⟨b, 0, none⟩), .slice (some ⟨g, 0, none⟩) m cap] w fun e w' => ∃ j, j < m ∧ e = .returned (.string (xs.getD j e0)) ∧ Cur w' b (N + 2) ∧ w.grownBy w' (some b) := by
  have HC := hide h
  have HS := hide hs
  have HX := hide hxs
  clear h hs hxs
  go_enter Try.func79, Try.ntmps79
  go_wp2_with fail
  refine (pick_any b N _ _ HC.out hN (by omega) (by omega)).mono ?_
  rintro e w1 ⟨x, rfl, hx0, hx1, hxm, hc1, hg1⟩
  have hxm' : x < (m : Int) := hxm (by omega)
  clear hxm
  obtain ⟨j, rfl⟩ : ∃ j : Nat, x = (j : Int) := ⟨x.toNat, by omega⟩
  obtain ⟨b', off', e', hc0⟩ := HS.out j (by rw [HX.out]; omega)
  cases e'
  have hc : w1.cell? ⟨g, 0 + j, none⟩ = some (.string (xs.getD j e0)) := by
    rw [World.cell?_of_block (w := w) (hg1.block g (blk_lt hc0) (by simpa using hg))]
    exact hc0
  simp only [Nat.zero_add] at hc
  have H1 := hide hc1
  have G1 := hide hg1
  have hj : j < m := by omega
  obtain ⟨y, hy⟩ : ∃ y, y = xs.getD j e0 := ⟨_, rfl⟩
  rw [← hy] at hc
  have HY := hide hy
  clear hc1 hg1 hc0 hy
  go_wp2
  go_ret
  exact ⟨j, hj, by rw [← HY.out]; rfl, H1.out, G1.out⟩
theorem lit_rowT (w : World) (cs : Array Value) (xs : List ByteArray) (h : cs.toList = xs.map Value.string) : SlT (w.alloc (.cells cs 9)) (some ⟨w.heap.size, 0, none⟩) xs := fun i hi => by
  refine ⟨w.heap.size, 0, rfl, ?_⟩
  have hb : (w.alloc (.cells cs 9)).heap[w.heap.size]? = some (.cells cs 9 (0, 0)) := by show (w.heap.push _)[w.heap.size]? = _; simp
  rw [Lib.cell_of_heap hb, Nat.zero_add, ← Array.getElem?_toList, h, List.getElem?_map, List.getElem?_eq_getElem hi]
  simp [List.getD, List.getElem?_eq_getElem hi]
theorem FB.setT {w : World} {g : Nat} {k : Int} {t : ByteArray} {pa pb : Option Addr} (h : FB w g k t pa pb) (q : ByteArray) : FB (w.setCell ⟨g, 1, none⟩ (.string q)) g k q pa pb := by
  have h1 := heap_setCell_same w g 1 _ _ (.string q) h
  unfold FB
  rw [h1]
  rfl
theorem FB.grownD {w w' : World} {g : Nat} {k : Int} {t : ByteArray} {pa pb : Option Addr} {r : Option Nat} (h : FB w g k t pa pb) (hb : w.grownBy w' r) (hne : r ≠ some g) : FB w' g k t pa pb := (hb.block g h.lt (fun e => hne e.symm)).trans h
/-- A node stands, the cursor goes on. -/
structure DN (w wr : World) (b N gx : Nat) (kd : Int) (t : ByteArray) (pa pb : Option Addr) : Prop where
  cur : Cur wr b N
  gr : w.grownBy wr (some b)
  fx : FB wr gx kd t pa pb
  hx : w.heap.size ≤ gx
  hb : b < w.heap.size
theorem DN.new {w wr : World} {b N : Nat} (kd : Int) (hb : b < w.heap.size) (c : Cur wr b N) (g : w.grownBy wr (some b)) : DN w (wr.alloc (.cells #[.int .i64 kd, .string ByteArray.empty, .pointer none, .pointer none] 160)) b N wr.heap.size kd ByteArray.empty none none :=
  ⟨c.alloc _, L1.grown_trans g (L1.grown_alloc wr _ b), FB.new wr kd _ none none, g.size, hb⟩
theorem DN.move {w wr w' : World} {b N N' gx : Nat} {kd : Int} {t : ByteArray} {pa pb : Option Addr} (h : DN w wr b N gx kd t pa pb) (c : Cur w' b N') (g : wr.grownBy w' (some b)) : DN w w' b N' gx kd t pa pb :=
  ⟨c, L1.grown_trans h.gr g, h.fx.grownD g (fun e => by cases e; have := h.hx; have := h.hb; omega), h.hx, h.hb⟩
theorem cur_set {w : World} {b N gx j : Nat} (c : Cur w b N) (hb : b < gx) (u : Value) : Cur (w.setCell ⟨gx, j, none⟩ u) b N := c.kept fun k hk => Below.heap_setCell w ⟨gx, j, none⟩ u k (by simp only; omega)
theorem grown_setD {w wr : World} {b gx j : Nat} (h : w.grownBy wr (some b)) (hx : w.heap.size ≤ gx) (u : Value) : w.grownBy (wr.setCell ⟨gx, j, none⟩ u) (some b) := L5.grown_trans h (grown_set wr gx j u) (fun x e => by cases e; exact .inr hx)
theorem DN.setT {w wr : World} {b N gx : Nat} {kd : Int} {t : ByteArray} {pa pb : Option Addr} (h : DN w wr b N gx kd t pa pb) (y : ByteArray) : DN w (wr.setCell ⟨gx, 1, none⟩ (.string y)) b N gx kd y pa pb :=
  ⟨cur_set h.cur (Nat.lt_of_lt_of_le h.hb h.hx) _, grown_setD h.gr h.hx _, h.fx.setT y, h.hx, h.hb⟩
theorem DN.setA {w wr : World} {b N gx : Nat} {kd : Int} {t : ByteArray} {pa pb : Option Addr} (h : DN w wr b N gx kd t pa pb) (y : Option Addr) : DN w (wr.setCell ⟨gx, 2, none⟩ (.pointer y)) b N gx kd t y pb :=
  ⟨cur_set h.cur (Nat.lt_of_lt_of_le h.hb h.hx) _, grown_setD h.gr h.hx _, h.fx.setA y, h.hx, h.hb⟩
theorem DN.setB {w wr : World} {b N gx : Nat} {kd : Int} {t : ByteArray} {pa pb : Option Addr} (h : DN w wr b N gx kd t pa pb) (y : Option Addr) : DN w (wr.setCell ⟨gx, 3, none⟩ (.pointer y)) b N gx kd t pa y :=
  ⟨cur_set h.cur (Nat.lt_of_lt_of_le h.hb h.hx) _, grown_setD h.gr h.hx _, h.fx.setB y, h.hx, h.hb⟩
def Kd : Nat → Nat
  | 0 => 6
  | d + 1 => 6 + 2 * Kd d
def Zd : Nat → Nat
  | 0 => 1
  | d + 1 => 1 + 2 * Zd d
/-- What formOf hands back. -/
def DrP (w : World) (b N d : Nat) (e : Ending) (w' : World) : Prop := ∃ p x, e = .returned (.pointer p) ∧ Tr w' (fun c => w.heap.size ≤ c) p x ∧ sz x ≤ Zd d ∧ okS x ∧ Cur w' b (N + Kd d) ∧ w.grownBy w' (some b)
def DC (d : Nat) : Prop := ∀ (b N : Nat) (w : World), Cur w b N → N + Kd d ≤ 1000000 → Calls Try.prog 124 #[.pointer (some ⟨b, 0, none⟩), .int .i64 (d : Int)] w fun e w' => DrP w b N d e w'
theorem Kd_le (d : Nat) : 6 ≤ Kd d := by cases d <;> simp [Kd] <;> omega
theorem Zd_le (d : Nat) : 1 ≤ Zd d := by cases d <;> simp [Zd]
theorem lit4 (j : Nat) (hj : j < 4) : ∃ c : Int, (97 ≤ c ∧ c ≤ 122) ∧ ([⟨#[97]⟩, ⟨#[98]⟩, ⟨#[97]⟩, ⟨#[122]⟩] : List ByteArray).getD j e0 = one c := by
  have : j = 0 ∨ j = 1 ∨ j = 2 ∨ j = 3 := by omega
  rcases this with rfl | rfl | rfl | rfl
  · exact ⟨97, by omega, rfl⟩
  · exact ⟨98, by omega, rfl⟩
  · exact ⟨97, by omega, rfl⟩
  · exact ⟨122, by omega, rfl⟩
theorem lit5 (j : Nat) (hj : j < 5) : 1 ≤ ([3, 3, 4, 2, 1] : List Int).getD j 0 ∧ ([3, 3, 4, 2, 1] : List Int).getD j 0 ≤ 4 := by
  have : j = 0 ∨ j = 1 ∨ j = 2 ∨ j = 3 ∨ j = 4 := by omega
  rcases this with rfl | rfl | rfl | rfl | rfl <;> exact ⟨by decide, by decide⟩
/-- A leaf is done. -/
theorem drp_leaf {w wr : World} {b N M gx d : Nat} {kd : Int} (h : DN w wr b M gx kd ByteArray.empty none none) (hM : M ≤ N + Kd d) (hk : kd = 1 ∨ kd = 2 ∨ kd = 4) : DrP w b N d (.returned (.pointer (some ⟨gx, 0, none⟩))) wr := by
  have := Zd_le d
  rcases hk with rfl | rfl | rfl
  · exact ⟨_, .none, rfl, ⟨gx, _, _, rfl, h.hx, h.fx.at⟩, this, trivial, h.cur.mono hM, h.gr⟩
  · exact ⟨_, .empty, rfl, ⟨gx, _, _, rfl, h.hx, h.fx.at⟩, this, trivial, h.cur.mono hM, h.gr⟩
  · exact ⟨_, .any, rfl, ⟨gx, _, _, rfl, h.hx, h.fx.at⟩, this, trivial, h.cur.mono hM, h.gr⟩
theorem drp_letter {w wr : World} {b N M gx d : Nat} {c : Int} (h : DN w wr b M gx 3 (one c) none none) (hM : M ≤ N + Kd d) (hc : 97 ≤ c ∧ c ≤ 122) : DrP w b N d (.returned (.pointer (some ⟨gx, 0, none⟩))) wr :=
  ⟨_, .letter c, rfl, ⟨gx, _, _, rfl, h.hx, h.fx.at⟩, Zd_le d, hc, h.cur.mono hM, h.gr⟩
end Go.Proofs.Ytapffbbmofhpoab.L5
