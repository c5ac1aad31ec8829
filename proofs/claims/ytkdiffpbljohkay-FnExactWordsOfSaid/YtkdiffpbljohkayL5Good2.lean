/-
  Contract: impl.GoodForm: whether a form is good.
-/
import Derived.Test.YtkdiffpbljohkayL5Good
namespace Go.Proofs.Ytkdiffpbljohkay.L5
open Go.RowKit L1 L4
set_option linter.unusedVariables false

/-- How often a number stands in a list. -/
def cn (xs : List Int) (i : Int) : Int := (xs.map fun x => if x = i then (1 : Int) else 0).sum
theorem cn_nb (p : Pr) (i : Int) : cn (nb p) i = nm p i := by
  unfold nb
  by_cases h5 : p.k = 5 ∨ p.k = 6
  · rw [if_pos h5, nm_two h5]
    simp [cn]
    omega
  · rw [if_neg h5]
    by_cases h7 : p.k = 7 ∨ p.k = 8
    · rw [if_pos h7, nm_one h7]
      simp [cn]
    · rw [if_neg h7]
      unfold nm
      rw [if_neg (by omega), if_neg (by omega)]
      rfl
theorem cn_snoc (xs : List Int) (j : Nat) (hj : j < xs.length) (i : Int) : cn (xs.take (j + 1)) i = cn (xs.take j) i + (if xs.getD j 0 = i then 1 else 0) := by
  unfold cn
  rw [List.take_succ_eq_append_getElem hj, List.map_append, List.sum_append]
  simp [List.getD, List.getElem?_eq_getElem hj]
theorem cn_range (xs : List Int) (i : Int) : 0 ≤ cn xs i ∧ cn xs i ≤ (xs.length : Int) := by
  induction xs with
  | nil => simp [cn]
  | cons x l ih =>
    simp only [cn, List.map_cons, List.sum_cons, List.length_cons] at ih ⊢
    split <;> omega
/-- A list of counts. -/
def Cnt (m : Nat) (f : Int → Int) (ys : List Int) : Prop := ys.length = m ∧ ∀ i, i < m → ys.getD i 0 = f (i : Int)
theorem Cnt.bump {m : Nat} {f g : Int → Int} {ys : List Int} (h : Cnt m f ys) (x : Int) (hx : 0 ≤ x) (hg : ∀ i, g i = f i + (if x = i then 1 else 0)) : Cnt m g (ys.set x.toNat (ys.getD x.toNat 0 + 1)) := by
  refine ⟨by simpa using h.1, fun i hi => ?_⟩
  rw [hg, ← h.2 i hi]
  by_cases e : x = (i : Int)
  · subst e
    rw [if_pos rfl]
    simp only [Int.toNat_natCast, List.getD, List.getElem?_set_self (show i < ys.length by rw [h.1]; exact hi), Option.getD_some]
  · rw [if_neg e]
    simp only [List.getD, List.getElem?_set_ne (show x.toNat ≠ i by omega)]
    omega
theorem sl_set {w : World} {a : Option Addr} {xs : List Int} {p : Addr} {u : Value} (h : Sl w a xs) (hne : ∀ x, a = some x → x.block ≠ p.block) : Sl (w.setCell p u) a xs := fun i hi => by
  obtain ⟨b, off, ha, hc⟩ := h i hi
  refine ⟨b, off, ha, ?_⟩
  have := hne _ ha
  rw [World.cell?_of_block (w := w) (Below.heap_setCell w p u b this)]
  exact hc
theorem heap_big {w w' : World} {g : Nat} (h : g < w.heap.size) (hb : Below w.heap.size w w') : g < w'.heap.size := Nat.lt_of_lt_of_le h hb.size
end Go.Proofs.Ytkdiffpbljohkay.L5
namespace Go.Proofs.Ytkdiffpbljohkay.L5
open Go.RowKit L1 L4
abbrev rowA (g : Nat) (ys : List Int) (w : World) (base : Nat) : Prop := w.ownsRow base 87 1 (.slice (some ⟨g, 0, none⟩) 24 24) 24 (ys.map (Value.int .i64))
theorem rowA_new (w : World) : rowA w.heap.size (List.replicate 24 0) (w.alloc (.cells #[.int .i64 0, .int .i64 0, .int .i64 0, .int .i64 0, .int .i64 0, .int .i64 0, .int .i64 0, .int .i64 0, .int .i64 0, .int .i64 0, .int .i64 0, .int .i64 0, .int .i64 0, .int .i64 0, .int .i64 0, .int .i64 0, .int .i64 0, .int .i64 0, .int .i64 0, .int .i64 0, .int .i64 0, .int .i64 0, .int .i64 0, .int .i64 0] 87)) w.heap.size :=
  ⟨rfl, .inr ⟨w.heap.size, 24, _, rfl, Nat.le_refl _, by show (w.heap.push _)[w.heap.size]? = _; exact Array.getElem?_push_size, Nat.le_refl _, by unfold maxLen; omega, rfl, rfl⟩⟩
theorem ints_get {ys : List Int} {i : Nat} (h : i < ys.length) : (ys.map (Value.int .i64))[i]? = some (.int .i64 (ys.getD i 0)) := by
  rw [List.getElem?_map, List.getElem?_eq_getElem h]
  simp [List.getD, List.getElem?_eq_getElem h]
theorem slice24 (w : World) (g k : Nat) (h1 : 1 ≤ k) (h24 : k ≤ 24) : (Instr.sliceAt 87 (.pointer (some ⟨g, 0, none⟩)) none (some (.int .i64 ((k : Int) - 1))) none).run Try.prog w = .ok (.slice (some ⟨g, 0, none⟩) (k - 1) 24) w := by
  have hl : Try.prog.arrayLen 87 = 24 := by kernel_rfl
  have hu : Try.prog.underlying 87 = some (.array (Try.prog.arrayLen 87) (Try.prog.elem 87)) := by kernel_rfl
  have hsz : (sizeOf (Try.prog.elem 87)).run Try.prog w = .ok 1 w := by kernel_rfl
  rw [run_sliceAt_array_h w 87 ⟨g, 0, none⟩ hu .i64 ((k : Int) - 1) (by omega) (by rw [hl]; omega), hsz, hl]
  have e : ((k : Int) - 1).toNat = k - 1 := by omega
  rw [e]
  simp [slicedAt, Result.andThen, Addr.add]
theorem rep0 (n i : Nat) : (List.replicate n (0 : Int)).getD i 0 = 0 := by
  simp only [List.getD, List.getElem?_replicate]
  split <;> rfl
theorem cnt_step (l : List Pr) (k : Nat) (hk : k < l.length) (i : Int) : cnt (l.take (k + 1)) i = cnt (l.take k) i + cn (nb (l.getD k eP)) i := by
  rw [take_snoc l k hk, cnt_snoc, cn_nb]
set_option maxRecDepth 100000 in
set_option maxHeartbeats 8000000 in
theorem goodForm_any (a : Option Addr) (l : List Pr) (n cap : Nat) (w : World) (hn : l.length = n) (hs : SlP w a l) (hn2 : n ≤ 1048576) (hst : TxP l) (bb : Bool) (hbb : bb = true ↔ GoodF l) :
    Calls Try.prog 35 #[.slice a n cap] w fun e w' => e = .returned (.bool bb) ∧ Below w.heap.size w w' := by
  have HBB := hide hbb
  have HST := hide hst
  clear hbb hst
  by_cases h1 : (n : Int) < 1
  · have hno : ¬ GoodF l := fun h => by have := h.1; omega
    have HNO := hide hno
    clear hs hn hno
    go_enter Try.func35, Try.ntmps35
    go_wp2
    go_ret
    exact ⟨by rw [bool_noT HBB.out HNO.out]; rfl, Below.refl _ _⟩
  by_cases h20 : 24 < (n : Int)
  · have hno : ¬ GoodF l := fun h => by have := h.1; omega
    have HNO := hide hno
    clear hs hn hno
    go_enter Try.func35, Try.ntmps35
    go_wp2
    go_ret
    exact ⟨by rw [bool_noT HBB.out HNO.out]; rfl, Below.refl _ _⟩
  have HS := hide hs
  have HN := hide hn
  have HNEW := hide (rowA_new w)
  have HBN : Hid (Below w.heap.size w (w.alloc (.cells #[.int .i64 0, .int .i64 0, .int .i64 0, .int .i64 0, .int .i64 0, .int .i64 0, .int .i64 0, .int .i64 0, .int .i64 0, .int .i64 0, .int .i64 0, .int .i64 0, .int .i64 0, .int .i64 0, .int .i64 0, .int .i64 0, .int .i64 0, .int .i64 0, .int .i64 0, .int .i64 0, .int .i64 0, .int .i64 0, .int .i64 0, .int .i64 0] 87))) := hide ((Below.refl _ _).alloc (Nat.le_refl _) _)
  clear hs hn
  go_enter Try.func35, Try.ntmps35
  go_wp2
  go_loopw [20] (fun i wr => ∃ (k : Nat) (ys : List Int), k ≤ n ∧ i = .int .i64 k ∧ Hid (∀ j, j < k → okP j (l.getD j eP)) ∧ Hid (Cnt 24 (fun i => cnt (l.take k) i) ys) ∧ Hid (rowA w.heap.size ys wr w.heap.size) ∧ Hid (Below w.heap.size w wr) ∧ Hid (w.heap.size < wr.heap.size)) (fun i _ => n - (intOf i).toNat)
  case atStart => exact ⟨0, List.replicate 24 0, Nat.zero_le _, rfl, fun j hj => absurd hj (Nat.not_lt_zero _), ⟨by simp, fun i hi => by rw [rep0]; simp [cnt]⟩, HNEW.out, HBN.out, by refine hide ?_; simp⟩
  case round =>
    obtain ⟨k, ys, hk, rfl, HJ, HY, HR, HB, HZ⟩ := hrel
    by_cases hlt : k < n
    · obtain ⟨b, off, rfl, hA0⟩ := HS.out k (by rw [HN.out]; exact hlt)
      have hA := hA0.base HB.out (blk_lt hA0.k)
      have hsx := HST.out k (by rw [HN.out]; exact hlt)
      have hstep := cnt_step l k (by rw [HN.out]; exact hlt)
      obtain ⟨p, hp⟩ : ∃ p, p = l.getD k eP := ⟨_, rfl⟩
      rw [← hp] at hA hsx hstep
      have hc0 := hA.k
      have hc1 := hA.t
      have hc2 := hA.a
      have hc3 := hA.b
      have hltI : (k : Int) < (n : Int) := by omega
      have HP := hide hp.symm
      have HSTEP := hide hstep
      have HSZ : Hid (wr.heap.size < (wr.alloc (.cells #[.int .i64 p.k, .string p.t, .int .i64 p.a, .int .i64 p.b] 55)).heap.size) := by refine hide ?_; simp
      have HPB : Hid (AtP (wr.alloc (.cells #[.int .i64 p.k, .string p.t, .int .i64 p.a, .int .i64 p.b] 55)) wr.heap.size 0 p) := by
        refine hide ⟨?_, ?_, ?_, ?_⟩ <;> simp
      have B1 := hide (HB.out.alloc HB.out.size (.cells #[.int .i64 p.k, .string p.t, .int .i64 p.a, .int .i64 p.b] 55))
      have R1 := hide (HR.out.alloc (.cells #[.int .i64 p.k, .string p.t, .int .i64 p.a, .int .i64 p.b] 55))
      clear hA0 hA hp hstep
      by_cases hok : okP k p
      · have C := hide (fun w => goodPart_any p k w hsx true (iff_of_true rfl hok))
        have HOK := hide hok
        clear hok hsx
        go_wp2_with fail
        refine (C.out _).mono ?_
        rintro e w1 ⟨rfl, hb1⟩
        have P1 := HPB.out.base hb1 HSZ.out
        have d0 := P1.k
        have d1 := P1.t
        have d2 := P1.a
        have d3 := P1.b
        simp only [Nat.zero_add] at d0 d1 d2 d3
        have B2 := hide (B1.out.trans (hb1.mono B1.out.size))
        have R2 := hide (own_belowT R1.out hb1)
        have Z2 : Hid (w.heap.size < w1.heap.size) := hide (by have h1 := HZ.out; have h2 := HSZ.out; have h3 := hb1.size; omega)
        clear hb1 P1
        go_wp2_with fail
        refine (namedBy_any p _).mono ?_
        rintro e w2 ⟨x, m, c2, rfl, hs2, hm, hb2, hf2⟩
        have HX : Hid (∀ y, x = some y → y.block ≠ w.heap.size) := hide (fun y hy => by
          have h1 := hf2 y hy
          have h2 := Z2.out
          omega)
        have B3 := hide (B2.out.trans (hb2.mono B2.out.size))
        have R3 := hide (own_belowT R2.out hb2)
        have Z3 : Hid (w.heap.size < w2.heap.size) := hide (by have h1 := Z2.out; have h3 := hb2.size; omega)
        have hm2 : m ≤ 2 := by rw [hm]; exact nb_len p
        have HM := hide hm
        have S3 := hide hs2
        clear hb2 hs2 hm hf2
        go_wp2
        go_loopw [32] (fun i wr' => ∃ (j : Nat) (zs : List Int), j ≤ m ∧ i = .int .i64 j ∧ Hid (Cnt 24 (fun i => cnt (l.take k) i + cn ((nb p).take j) i) zs) ∧ Hid (rowA w.heap.size zs wr' w.heap.size) ∧ Hid (Below w.heap.size w wr') ∧ Hid (w.heap.size < wr'.heap.size) ∧ Hid (Sl wr' x (nb p))) (fun i _ => m - (intOf i).toNat)
        case atStart => exact ⟨0, ys, Nat.zero_le _, rfl, hide (by simpa [cn] using HY.out), R3, B3, Z3, S3⟩
        case round =>
          obtain ⟨j, zs, hj, rfl, HQ, HR4, HB4, HZ4, HS4⟩ := hrel
          by_cases hjm : j < m
          · obtain ⟨b', off', rfl, hcv⟩ := HS4.out j (by rw [← HM.out]; exact hjm)
            have hv := ok_nb HOK.out j (by rw [← HM.out]; exact hjm)
            have hcs := cn_snoc (nb p) j (by rw [← HM.out]; exact hjm)
            obtain ⟨q, hq⟩ : ∃ q : Nat, (nb p).getD j 0 = (q : Int) := ⟨((nb p).getD j 0).toNat, by omega⟩
            rw [hq] at hcv hv hcs
            have hq24 : q < 24 := by omega
            have hjI : (j : Int) < (m : Int) := by omega
            have hqI : (q : Int) < 24 := by omega
            have hz : zs.getD q 0 = cnt (l.take k) (q : Int) + cn ((nb p).take j) (q : Int) := HQ.out.2 q hq24
            have hzr : 0 ≤ zs.getD q 0 ∧ zs.getD q 0 ≤ 100 := by
              rw [hz]
              have h1 := cnt_range (l.take k) (q : Int)
              have h2 := cn_range ((nb p).take j) (q : Int)
              have h3 := nb_len p
              simp only [List.length_take] at h1 h2
              omega
            have hcz := HR4.out.cellAt q (by omega)
            rw [ints_get (by rw [HQ.out.1]; exact hq24)] at hcz
            have hfr := HR4.out.frozenAt q
            have hst := HR4.out.stored q (.int .i64 (zs.getD q 0 + 1))
            have hbump := HQ.out.bump (q : Int) (by omega) (g := fun i => cnt (l.take k) i + cn ((nb p).take (j + 1)) i) (fun i => by rw [hcs]; omega)
            simp only [Int.toNat_natCast] at hbump
            have R5 : Hid (rowA w.heap.size (zs.set q (zs.getD q 0 + 1)) (wr.setCell ⟨w.heap.size, q, none⟩ (.int .i64 (zs.getD q 0 + 1))) w.heap.size) := hide (by rw [rowA, List.map_set]; exact hst.1)
            have B5 := hide (HB4.out.setCell (p := ⟨w.heap.size, q, none⟩) (Nat.le_refl _) (.int .i64 (zs.getD q 0 + 1)))
            have S5 := hide (sl_set (p := ⟨w.heap.size, q, none⟩) (u := .int .i64 (zs.getD q 0 + 1)) HS4.out HX.out)
            have HBUMP := hide hbump
            obtain ⟨c, hc⟩ : ∃ c, c = zs.getD q 0 := ⟨_, rfl⟩
            rw [← hc] at hcz hzr R5 B5 S5 HBUMP
            obtain ⟨hz0, hz1⟩ := hzr
            clear hc hbump hst hz hcs hq hv
            go_wp2
            go_roundw
            case rel => exact ⟨j + 1, _, by omega, by go_num, HBUMP, R5, B5, by refine hide ?_; simpa using HZ4.out, S5⟩
            case measure => simp [intOf]; omega
          · obtain rfl : j = m := by omega
            have hjI : ¬ (j : Int) < (j : Int) := by omega
            go_wp2
            go_roundw
            case rel =>
              refine ⟨k + 1, zs, by omega, by go_num, ?_, ?_, HR4, HB4, HZ4⟩
              · intro i hi
                by_cases e : i = k
                · subst e; rw [HP.out]; exact HOK.out
                · exact HJ.out i (by omega)
              · refine hide ⟨HQ.out.1, fun i hi => ?_⟩
                have h1 : zs.getD i 0 = cnt (l.take k) (i : Int) + cn ((nb p).take j) (i : Int) := HQ.out.2 i hi
                rw [h1, HM.out, List.take_length]
                exact (HSTEP.out (i : Int)).symm
            case measure => simp [intOf]; omega
      · have C := hide (fun w => goodPart_any p k w hsx false (iff_of_false (by simp) hok))
        have hno : ¬ GoodF l := fun h => hok (by have := h.2.1 k (by rw [HN.out]; exact hlt); rw [HP.out] at this; exact this)
        have HNO := hide hno
        clear hok hsx hno
        go_wp2_with fail
        refine (C.out _).mono ?_
        rintro e w1 ⟨rfl, hb1⟩
        have B2 := hide (B1.out.trans (hb1.mono B1.out.size))
        clear hb1
        go_wp2
        go_ret
        exact ⟨by rw [bool_noT HBB.out HNO.out]; rfl, B2.out⟩
    · obtain rfl : k = n := by omega
      have hltI : ¬ (k : Int) < (k : Int) := by omega
      have hsl := slice24 wr w.heap.size k (by omega) (by omega)
      have HK := hide (show 1 ≤ k ∧ k ≤ 24 from ⟨by omega, by omega⟩)
      have HG : Hid (GoodF l ↔ ∀ i : Nat, i < k - 1 → ys.getD i 0 = 1) := hide (by
        have hN := HN.out
        have hY : ∀ i : Nat, i < k - 1 → ys.getD i 0 = cnt l (i : Int) := fun i hi => by
          rw [HY.out.2 i (by have := HK.out; omega), ← hN, List.take_length]
        constructor
        · intro h i hi
          rw [hY i hi]
          exact h.2.2 i (by omega)
        · intro h
          exact ⟨by have := HK.out; omega, fun j hj => HJ.out j (by omega), fun i hi => by rw [← hY i (by omega)]; exact h i (by omega)⟩)
      obtain ⟨r, hr⟩ : ∃ r, r = k - 1 := ⟨_, rfl⟩
      rw [← hr] at hsl HG
      have hr24 : r < 24 := by omega
      clear hr
      go_wp2
      go_loopw [48] (fun i wr' => ∃ (j : Nat), j ≤ r ∧ i = .int .i64 j ∧ wr' = wr ∧ Hid (∀ i : Nat, i < j → ys.getD i 0 = 1)) (fun i _ => r - (intOf i).toNat)
      case atStart => exact ⟨0, Nat.zero_le _, rfl, by first | rfl | trivial, fun j hj => absurd hj (Nat.not_lt_zero _)⟩
      case round =>
        obtain ⟨j, hj, rfl, rfl, HD⟩ := hrel
        by_cases hjm : j < r
        · have hjI : (j : Int) < (r : Int) := by omega
          have hcz := HR.out.cellAt j (by omega)
          rw [ints_get (by rw [HY.out.1]; omega)] at hcz
          obtain ⟨c, hc⟩ : ∃ c, c = ys.getD j 0 := ⟨_, rfl⟩
          rw [← hc] at hcz
          have HC := hide hc
          clear hc
          by_cases h1 : c = 1
          · subst h1
            go_wp2
            go_roundw
            case rel =>
              refine ⟨j + 1, by omega, by go_num, by first | rfl | trivial, ?_⟩
              intro i hi
              by_cases e : i = j
              · subst e; exact HC.out.symm
              · exact HD.out i (by omega)
            case measure => simp [intOf]; omega
          · have E := hide (bool_noT (HBB.out.trans HG.out) (fun h => h1 (by rw [HC.out]; exact h j hjm)))
            have h1b : (c == 1) = false := by simpa using h1
            clear h1
            go_wp2
            go_ret
            exact ⟨by rw [E.out]; rfl, HB.out⟩
        · have hjI : ¬ (j : Int) < (r : Int) := by omega
          have E := hide ((HBB.out.trans HG.out).2 (fun i hi => HD.out i (by omega)))
          go_wp2
          go_ret
          exact ⟨by rw [E.out]; rfl, HB.out⟩
end Go.Proofs.Ytkdiffpbljohkay.L5
