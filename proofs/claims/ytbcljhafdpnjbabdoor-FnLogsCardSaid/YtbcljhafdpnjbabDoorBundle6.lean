/-
  Contracts: spec.l1Zag, spec.l1Get (of a text and a place the number whose digits stand there, and the place behind, -1 where there is none), spec.GetVarint.
  Contracts: spec.l1In, spec.l6Starts, spec.l6Index.
  Contracts: spec.l6Piece, spec.l1Same.
  Contract: spec.l6Many: how many records a piece has, -1 where it is none.
  Contract: spec.GoodLog.
  Contracts: spec.l6End, spec.EndOf.
  Contracts: spec.l6Bytes, spec.l6Cut.
  Contract: spec.CutFrom.
-/
import Derived.Test.YtbcljhafdpnjbabDoorBundle4
import Derived.Test.YtbcljhafdpnjbabDoorBundle5
import Derived.Lib.VarintBits
import Derived.Deep.RegionHeld3
import Derived.Deep.QuietTactic
import Derived.BigQuiet
import Derived.Test.YtbcljhafdpnjbabDoorBundle2
import Derived.OwnWalk
import Derived.Test.YtbcljhafdpnjbabDoorBundle3
import Derived.Deep.RegionLaw
import Derived.Deep.AppendLies
namespace Go.Proofs.YtbcljhafdpnjbabDoor.L1
open Go.RowKit
set_option linter.unusedVariables false

def lgRes (a : Nat) : Option (List Int) → Value
  | none => .tuple #[.int .i64 0, .int .i64 (-1)]
  | some l => .tuple #[.int .i64 (zag (val l)), .int .i64 ((a + l.length : Nat) : Int)]
theorem lgRes_some {a k : Nat} {l : List Int} {v : Int} (hv : val l = v) (hl : l.length = k + 1) : lgRes a (some l) = .tuple #[.int .i64 (zag v), .int .i64 ((a : Int) + (k : Int) + 1)] := by
  subst hv
  simp only [lgRes, hl]
  congr 4

theorem tdiv_zag7 (z : Int) (h : 0 ≤ z) (h2 : z ≤ 1125899906842624) (ho : z % 2 = 1) : wrap64 (-(z + 1).tdiv 2) = zag z := by
  unfold zag
  rw [if_pos ho, Int.tdiv_eq_ediv_of_nonneg (by omega)]
  unfold wrap64
  omega

set_option maxRecDepth 100000 in
set_option maxHeartbeats 400000 in
theorem l1Zag_any (z : Int) (w : World) (h1 : 0 ≤ z) (h2 : z ≤ 1125899906842624) :
    Calls Tryd.prog 79 #[.int .i64 z] w fun e w' => e = .returned (.int .i64 (zag z)) ∧ w = w' := by
  by_cases h : z % 2 = 1
  · have e := tdiv_zag7 z h1 h2 h
    have E := hide e
    clear e
    go_enter Tryd.func79, Tryd.ntmps79
    go_wp2
    go_ret
    rw [← E.out]
    exact ⟨rfl, rfl⟩
  · have e : zag z = z / 2 := by unfold zag; rw [if_neg h]
    rw [e]
    clear e
    go_enter Tryd.func79, Tryd.ntmps79
    go_wp2
    go_ret
    exact ⟨rfl, rfl⟩

theorem slice_nat (w : World) (s : ByteArray) (a k : Nat) (h : a + k < s.size) :
    (Instr.slice 9 (.string s) (some (.int .i64 (a : Int))) (some (.int .i64 ((a : Int) + (k : Int) + 1))) none).run Tryd.prog w = .ok (.string (s.extract a (a + k + 1))) w := by
  have h := run_slice_string (P := Tryd.prog) w 9 s .i64 .i64 (a : Int) ((a : Int) + (k : Int) + 1) Tryd.underlying9 (by omega) (by omega) (by omega)
  rw [h]
  congr 4
attribute [local go_sem ↓] slice_nat
set_option maxRecDepth 100000 in
set_option maxHeartbeats 1000000 in
theorem l1Get_any (s : ByteArray) (a : Nat) (w : World) (ha : a < s.size) (hs : s.size ≤ 1048576) :
    Calls Tryd.prog 72 #[.string s, .int .i64 a] w fun e w' => e = .returned (lgRes a (gv (bts s a))) ∧ Below w.heap.size w w' := by
  have hI : (a : Int) < (s.size : Int) := by omega
  have htl := hide (bts_len s a)
  go_enter Tryd.func72, Tryd.ntmps72
  go_wp2
  go_loop [6, 7, 8] (fun z by_ i => ∃ j : Nat, j ≤ 7 ∧ j ≤ s.size - a ∧ i = .int .i64 ((a : Int) + (j : Int)) ∧ by_ = .int .i64 (wor j) ∧ z = .int .i64 (val ((bts s a).take j)) ∧ Hid (Hi ((bts s a).take j)) ∧ Hid (gv (bts s a) = gvf (6 - j) ((bts s a).take j) ((bts s a).drop j))) (fun _ _ i => a + 7 - (intOf i).toNat)
  case atStart => exact ⟨0, by omega, by omega, by simp, rfl, rfl, fun x hx => by simp at hx, rfl⟩
  case round =>
    obtain ⟨k, hk7, hkl, rfl, rfl, rfl, HH, HG⟩ := hrel
    by_cases hl : k < s.size - a
    · by_cases h7 : k < 7
      · have hlt : a + k < s.size := by omega
        have hb := bts_get s a k hlt
        have hbb := bts_byte s a k
        have hd := digit_bd ((bts s a).getD k 0) k (by omega)
        have hv := val_bd7 (bts s a) k (by rw [htl.out]; omega) (by omega)
        have h7I : (k : Int) < 7 := by omega
        have h7J : (a : Int) + (k : Int) < (a : Int) + 7 := by omega
        have hlI : (a : Int) + (k : Int) < (s.size : Int) := by omega
        have hb1I : (a : Int) ≤ (a : Int) + (k : Int) + 1 := by omega
        have hb2I : (a : Int) + (k : Int) + 1 ≤ (s.size : Int) := by omega
        have hb3I : (0 : Int) ≤ (a : Int) := by omega
        have hwr : IntKind.i64.wrap ((a : Int) + (k : Int) + 1) = (a : Int) + (k : Int) + 1 := by
          simp [IntKind.wrap, IntKind.bits, IntKind.signed]
          omega
        have hw1 := wor_pos k
        have hw2 : wor k ≤ 4398046511104 := by
          have : wor k ≤ wor 6 := wor_le (by omega)
          simpa [wor] using this
        obtain ⟨b, hbe⟩ : ∃ b, b = (bts s a).getD k 0 := ⟨_, rfl⟩
        rw [← hbe] at hb hbb hd
        obtain ⟨v, hve⟩ : ∃ v, v = val ((bts s a).take k) := ⟨_, rfl⟩
        rw [← hve] at hv ⊢
        have HB := hide hbe
        have HV := hide hve
        obtain ⟨hb0, hb1⟩ := hbb
        obtain ⟨hd0, hd1⟩ := hd
        obtain ⟨hv0, hv1⟩ := hv
        have hb' := hb.symm
        have hand := u8_and127 b hb0 hb1
        clear hbe hve hb
        by_cases h128 : b < 128
        · have hsep := vd_sep k (bts s a) (by rw [htl.out]; omega) h7 HH.out (by rw [← HB.out]; omega) (by rw [← HB.out]; omega)
          rw [← HG.out] at hsep
          have hst : val ((bts s a).take (k + 1)) = v + b % 128 * wor k := by rw [val_take _ _ (by rw [htl.out]; omega), ← HB.out, ← HV.out]
          rw [hst] at hsep
          have hsl : ((bts s a).take (k + 1)).length = k + 1 := by rw [List.length_take, htl.out]; omega
          have hpc := str_piece s a (k + 1) (by omega)
          have hmem : ∀ x ∈ (bts s a).take (k + 1), 0 ≤ x ∧ x < 256 := fun x hx => bts_mem s a x (List.mem_of_mem_take hx)
          have ST := hide hsep
          have VT := hide hst
          have SL := hide hsl
          have PC := hide hpc
          have ME := hide hmem
          clear hsep hst hsl hpc hmem HH HG
          by_cases hz : v + b % 128 * wor k ≤ 2000000000000
          · have hd : decide (2000000000000 < v + b % 128 * wor k) = false := by simp; omega
            have hzl := zag_lo (v + b % 128 * wor k) (by omega) hz
            have hvc := fun wx => l1Varint_any (zag (v + b % 128 * wor k)) wx hzl.1 hzl.2
            rw [zig_zag _ (by omega)] at hvc
            have hdec : vd (v + b % 128 * wor k) = (bts s a).take (k + 1) ↔ strOfNums (vd (v + b % 128 * wor k)) = s.extract a (a + k + 1) :=
              ⟨fun h => by rw [h]; exact PC.out, fun h => str_inj (vdf_byte 5 _ (by omega) (by simp [wor]; omega)) ME.out (h.trans PC.out.symm)⟩
            obtain ⟨A, hA⟩ : ∃ A, A = strOfNums (vd (v + b % 128 * wor k)) := ⟨_, rfl⟩
            rw [← hA] at hvc hdec
            have VC := hide hvc
            have DE := hide hdec
            clear hA hvc hdec
            by_cases hAB : A = s.extract a (a + k + 1)
            · have hcmp : (A.toList == (s.extract a (a + k + 1)).toList) = true := by rw [hAB]; simp
              have HQ := hide hAB
              clear hAB
              go_wp2_with (go_at_call 79; refine (l1Zag_any _ _ (by omega) (by omega)).mono ?_; rintro e w' ⟨rfl, rfl⟩)
              go_region_held3 (fun _ => True) (trivial) ((go_at_call 65; refine (unhide VC _).mono ?_; rintro e w1 ⟨rfl, hb⟩))
              go_wp2
              go_ret2
              rw [ST.out, if_pos ⟨hz, DE.out.2 HQ.out⟩, lgRes_some VT.out SL.out]
              exact ⟨rfl, (Below.drew (Below.refl _ _)).trans (by assumption)⟩
            · have hcmp : (A.toList == (s.extract a (a + k + 1)).toList) = false := by
                apply Bool.eq_false_iff.2
                intro h
                exact hAB (L1.toList_inj (eq_of_beq h))
              have HN := hide hAB
              clear hAB
              go_wp2_with (go_at_call 79; refine (l1Zag_any _ _ (by omega) (by omega)).mono ?_; rintro e w' ⟨rfl, rfl⟩)
              go_region_held3 (fun _ => True) (trivial) ((go_at_call 65; refine (unhide VC _).mono ?_; rintro e w1 ⟨rfl, hb⟩))
              go_wp2
              go_ret2
              rw [ST.out, if_neg (fun h => HN.out (DE.out.1 h.2))]
              exact ⟨rfl, (Below.drew (Below.refl _ _)).trans (by assumption)⟩
          · have hz' : 2000000000000 < v + b % 128 * wor k := by omega
            have hd : decide (2000000000000 < v + b % 128 * wor k) = true := by simp; omega
            go_wp2_with (go_at_call 79; refine (l1Zag_any _ _ (by omega) (by omega)).mono ?_; rintro e w' ⟨rfl, rfl⟩)
            go_quiet (fail)
            go_wp2
            go_ret2
            rw [ST.out, if_neg (by omega)]
            exact ⟨rfl, below_drewN (Below.refl _ _) _⟩
        · go_wp2
          go_round
          case rel =>
            refine ⟨k + 1, by omega, by omega, by go_num, ?_, ?_, ?_, ?_⟩
            · show Value.int .i64 (wor k * 128) = .int .i64 (128 * wor k)
              rw [Int.mul_comm]
            · rw [val_take _ _ (by rw [htl.out]; omega), ← HB.out, ← HV.out]
            · exact hi_take (by rw [htl.out]; omega) HH.out (by rw [← HB.out]; omega) (by rw [← HB.out]; exact hb1)
            · by_cases h6 : k < 6
              · exact HG.out.trans (gvf_on (by rw [htl.out]; omega) h6 (by rw [← HB.out]; omega))
              · rw [HG.out]
                show _ = _
                rw [gvf_six (by omega), gvf_six (by omega)]
          case measure => simp [intOf]; omega
      · have hend := gvf_six (t := bts s a) (k := k) (by omega)
        rw [← HG.out] at hend
        have h7J : ¬ (a : Int) + (k : Int) < (a : Int) + 7 := by omega
        have hlI : (a : Int) + (k : Int) < (s.size : Int) := by omega
        have HE := hide hend
        clear hend
        go_wp2
        go_ret2
        rw [HE.out]
        exact ⟨rfl, Below.refl _ _⟩
    · have hend := gvf_end (t := bts s a) (k := k) (by rw [htl.out]; omega)
      rw [← HG.out] at hend
      have hlI : ¬ (a : Int) + (k : Int) < (s.size : Int) := by omega
      have HE := hide hend
      clear hend
      go_wp2
      go_ret2
      rw [HE.out]
      exact ⟨rfl, Below.refl _ _⟩
end Go.Proofs.YtbcljhafdpnjbabDoor.L1

namespace Go.Proofs.YtbcljhafdpnjbabDoor.L6
open Go.RowKit L1
set_option linter.unusedVariables false

set_option maxRecDepth 100000 in
set_option maxHeartbeats 400000 in
theorem l1In_any (x lo hi : Int) (w : World) (b : Bool) (hb : b = true ↔ lo ≤ x ∧ x ≤ hi) :
    Calls Tryd.prog 54 #[.int .i64 x, .int .i64 lo, .int .i64 hi] w fun e w' => e = .returned (.bool b) ∧ w = w' := by
  by_cases h1 : lo ≤ x
  · by_cases h2 : x ≤ hi
    · obtain rfl : b = true := hb.2 ⟨h1, h2⟩
      clear hb
      go_enter Tryd.func54, Tryd.ntmps54
      go_wp2
      go_ret
      exact ⟨rfl, rfl⟩
    · obtain rfl : b = false := by
        cases b with
        | false => rfl
        | true => exact absurd (hb.1 rfl).2 h2
      clear hb
      go_enter Tryd.func54, Tryd.ntmps54
      go_wp2
      go_ret
      exact ⟨rfl, rfl⟩
  · obtain rfl : b = false := by
      cases b with
      | false => rfl
      | true => exact absurd (hb.1 rfl).1 h1
    clear hb
    go_enter Tryd.func54, Tryd.ntmps54
    go_wp2
    go_ret
    exact ⟨rfl, rfl⟩

set_option maxRecDepth 100000 in
set_option maxHeartbeats 2000000 in
theorem l6Starts_any (s : ByteArray) (w : World) (hs : s.size ≤ 1048576) :
    Calls Tryd.prog 55 #[.string s] w fun e w' => ∃ v, e = .returned (.tuple #[v, .int .i64 (wh s : Nat)]) ∧ w'.ownsRow w.heap.size 3 1 v (cnt s) ((st s).map (Value.int .i64)) ∧ Below w.heap.size w w' := by
  obtain ⟨i0, hi, hz0, hz1, hz2⟩ := info_parts info_int
  have hcl := cnt_le s
  go_enter Tryd.func55, Tryd.ntmps55
  go_wp2
  go_loopw [4, 5] (fun o i wr => ∃ j : Nat, j ≤ cnt s ∧ i = .int .i64 (pl s 0 j : Nat) ∧ wr.ownsRow w.heap.size 3 1 o j ((stk s j).map (Value.int .i64)) ∧ Below w.heap.size w wr) (fun _ i _ => s.size - (intOf i).toNat)
  case atStart => exact ⟨0, by omega, rfl, World.ownsRow_nil _ _ _ _, Below.refl _ _⟩
  case round =>
    obtain ⟨j, hj, rfl, hown, hbel⟩ := hrel
    obtain ⟨b1, q1, rfl, _, _⟩ := own_form hown
    have hpl := pl_le s j
    by_cases hlt : j < cnt s
    · obtain ⟨c, n, hrc, hnx⟩ := cnt_rc s j hlt
      have hpl2 := pl_le s (j + 1)
      have hps := pl_lt s j hlt
      have hsk := stk_succ s j
      obtain ⟨l, hg, hz, hc, hn, hle⟩ := rc_gv hrc
      have hps2 : pl s 0 j < s.size := by omega
      have C := hide (l1Get_any s (pl s 0 j) wr hps2 hs)
      rw [hg] at C
      simp only [lgRes, hz, ← hc] at C
      have CI := hide (fun w => l1In_any (n : Int) 0 20 w true (by simp; omega))
      obtain ⟨p, hp⟩ : ∃ p, p = pl s 0 j := ⟨_, rfl⟩
      obtain ⟨q, hq⟩ : ∃ q, q = pl s 0 (j + 1) := ⟨_, rfl⟩
      rw [← hp] at C hpl hps hsk hps2
      rw [← hq] at hpl2 hps hnx
      rw [← hp]
      have hpI : (p : Int) < (s.size : Int) := by omega
      have hc0 : ¬ (c : Int) < 0 := by omega
      have hn0 : ¬ (s.size : Int) - (c : Int) < (n : Int) := by omega
      have hqq : (c : Int) + (n : Int) = (q : Int) := by omega
      have HSK := hide hsk
      have HQ := hide hq
      have O := hide hown
      have B := hide hbel
      have hp' := hide hp
      clear hrc hnx hsk hq hown hbel hp hg hz hc hle
      go_wp2_with fail
      refine C.out.mono ?_
      rintro e w1 ⟨rfl, hb1⟩
      have O1 := hide (own_below O.out hb1)
      have B1 := hide (B.out.trans (hb1.mono B.out.size))
      clear hb1
      go_wp2_with fail
      refine (CI.out _).mono ?_
      rintro e w2 ⟨rfl, rfl⟩
      go_wp2_with (first
        | (at_builtin; refine wpList_append_own _ rfl _ _ 48 rfl w.heap.size 3 i0 (.int .i64 0) 1 8 Tryd.underlying48 hi hz0 hz1 hz2 rfl (by decide) _ _ _ rfl (O1.out.alloc _) ⟨w1.heap.size, 0, none⟩ 1 1 [.int .i64 (p : Int)] rfl rfl (cell_one_new _ _ _) (by intro u hu; simp at hu; subst hu; rfl) (by unfold maxLen; omega) (by omega) (by have := B1.out.size; simp; omega) ?_)
        | go_in)
      intro v6 w6 h6 g6 _
      have hbase : w.heap.size ≤ (w1.alloc (.cells #[.int .i64 (p : Int)] 3)).heap.size := by have := B1.out.size; simp; omega
      have O6 : w6.ownsRow w.heap.size 3 1 v6 (j + 1) ((stk s (j + 1)).map (Value.int .i64)) := by
        rw [HSK.out, List.map_append]
        exact h6
      have B6 := (B1.out.alloc (Nat.le_trans B1.out.size (Nat.le_refl _)) _).grown g6 hbase (fun k hk => (O1.out.lt k hk).1)
      have HR := hide (And.intro O6 B6)
      obtain ⟨a6, c6, rfl, _, _⟩ := own_form O6
      clear h6 g6 O6 B6 hbase
      go_wp2
      go_roundw
      case rel => exact ⟨j + 1, by omega, by rw [HQ.out], HR.out⟩
      case measure => simp [intOf]; omega
    · obtain rfl : j = cnt s := by omega
      have hrc := cnt_no s
      obtain ⟨p, hp⟩ : ∃ p, p = pl s 0 (cnt s) := ⟨_, rfl⟩
      rw [← hp] at hpl hrc
      rw [← hp]
      have E : Hid (wh s = p) := hp.symm
      have O := hide hown
      have B := hide hbel
      clear hp hown hbel
      by_cases hps2 : p < s.size
      · have hpI : (p : Int) < (s.size : Int) := by omega
        have C := hide (l1Get_any s p wr hps2 hs)
        cases hg : gv (bts s p) with
        | none =>
          rw [hg] at C
          simp only [lgRes] at C
          clear hg hrc
          go_wp2_with fail
          refine C.out.mono ?_
          rintro e w1 ⟨rfl, hb1⟩
          have O1 := hide (own_below O.out hb1)
          have B1 := hide (B.out.trans (hb1.mono B.out.size))
          clear hb1
          go_wp2
          go_ret2
          exact ⟨_, by rw [E.out]; rfl, O1.out, B1.out⟩
        | some l =>
          rw [hg] at C
          simp only [lgRes] at C
          have hf := gv_form (bts_mem s p) hg
          have hz := zag_lo (val l) (val_nonneg l) hf.2
          have hl := gv_some hg
          rw [bts_len] at hl
          have hno : ¬ (0 ≤ zag (val l) ∧ zag (val l) ≤ 20 ∧ zag (val l) ≤ (s.size : Int) - ((p + l.length : Nat) : Int)) := by
            intro hc
            unfold rc at hrc
            rw [hg] at hrc
            simp only [if_pos hc] at hrc
            cases hrc
          obtain ⟨z, hzz⟩ : ∃ z, z = zag (val l) := ⟨_, rfl⟩
          obtain ⟨e, hee⟩ : ∃ e, e = p + l.length := ⟨_, rfl⟩
          rw [← hzz] at C hz hno
          rw [← hee] at C hno
          have he : e ≤ s.size := by omega
          have he0 : ¬ (e : Int) < 0 := by omega
          clear hg hf hl hzz hee hrc
          by_cases h1 : 0 ≤ z ∧ z ≤ 20
          · have h3 : (s.size : Int) - (e : Int) < z := by omega
            have CI := hide (fun w => l1In_any z 0 20 w true (by simp; omega))
            clear hno h1
            go_wp2_with fail
            refine C.out.mono ?_
            rintro e w1 ⟨rfl, hb1⟩
            have O1 := hide (own_below O.out hb1)
            have B1 := hide (B.out.trans (hb1.mono B.out.size))
            clear hb1
            go_wp2_with fail
            refine (CI.out _).mono ?_
            rintro e w2 ⟨rfl, rfl⟩
            go_wp2
            go_ret2
            exact ⟨_, by rw [E.out]; rfl, O1.out, B1.out⟩
          · have CI := hide (fun w => l1In_any z 0 20 w false (by simp; omega))
            clear hno h1
            go_wp2_with fail
            refine C.out.mono ?_
            rintro e w1 ⟨rfl, hb1⟩
            have O1 := hide (own_below O.out hb1)
            have B1 := hide (B.out.trans (hb1.mono B.out.size))
            clear hb1
            go_wp2_with fail
            refine (CI.out _).mono ?_
            rintro e w2 ⟨rfl, rfl⟩
            go_wp2
            go_ret2
            exact ⟨_, by rw [E.out]; rfl, O1.out, B1.out⟩
      · have hpI : ¬ (p : Int) < (s.size : Int) := by omega
        clear hrc
        go_wp2
        go_ret2
        exact ⟨_, by rw [E.out]; rfl, O.out, B.out⟩

set_option maxRecDepth 100000 in
set_option maxHeartbeats 2000000 in
theorem l6Index_any (s : ByteArray) (a : Option Addr) (n cap : Nat) (w : World) (hn : cnt s = n) (hn2 : n ≤ 1048576) (hs : Sl w a (st s)) :
    Calls Tryd.prog 73 #[.slice a n cap] w fun e w' => ∃ v, e = .returned v ∧ w'.ownsRow w.heap.size 3 1 v (ix s).length ((ix s).map (Value.int .i64)) ∧ Below w.heap.size w w' := by
  obtain ⟨i0, hi, hz0, hz1, hz2⟩ := info_parts info_int
  have HS := hide hs
  have HN := hide hn
  clear hs hn
  go_enter Tryd.func73, Tryd.ntmps73
  go_wp2
  go_loopw [3, 8] (fun o i wr => ∃ j : Nat, j ≤ n ∧ i = .int .i64 j ∧ wr.ownsRow w.heap.size 3 1 o ((j + 2) / 3) ((ixk s ((j + 2) / 3)).map (Value.int .i64)) ∧ Below w.heap.size w wr) (fun _ i _ => n - (intOf i).toNat)
  case atStart => exact ⟨0, by omega, rfl, World.ownsRow_nil _ _ _ _, Below.refl _ _⟩
  case round =>
    obtain ⟨j, hj, rfl, hown, hbel⟩ := hrel
    obtain ⟨b1, q1, rfl, _, _⟩ := own_form hown
    by_cases hlt : j < n
    · obtain ⟨b, off, rfl, hc0⟩ := HS.out j (by rw [stk_len, HN.out]; exact hlt)
      have hc := (hbel.cell (p := ⟨b, off + j, none⟩) (blk_lt hc0)).trans hc0
      rw [stk_get s (cnt s) j (by rw [HN.out]; exact hlt)] at hc
      have hltI : (j : Int) < (n : Int) := by omega
      have hj0 : (0 : Int) ≤ (j : Int) := by omega
      by_cases h3 : j % 3 = 0
      · have hm : (j : Int).tmod 3 = 0 := by rw [Int.tmod_eq_emod_of_nonneg (by omega)]; omega
        have hsk := ixk_succ s (j / 3)
        have ej : 3 * (j / 3) = j := by omega
        rw [ej] at hsk
        have ek : (j + 2) / 3 = j / 3 := by omega
        have ek2 : (j + 1 + 2) / 3 = j / 3 + 1 := by omega
        rw [ek] at hown ⊢
        obtain ⟨k, hk⟩ : ∃ k, k = j / 3 := ⟨_, rfl⟩
        rw [← hk] at hown hsk ek2 ⊢
        obtain ⟨p, hp⟩ : ∃ p : Int, p = (pl s 0 j : Int) := ⟨_, rfl⟩
        rw [← hp] at hc hsk
        have HSK := hide hsk
        have HK := hide ek2
        have O := hide hown
        have B := hide hbel
        have hkn : k ≤ n := by omega
        clear hsk hown hbel hp hc0 ek ek2 ej hk
        go_wp2_with (first
          | (at_builtin; refine wpList_append_own _ rfl _ _ 48 rfl w.heap.size 3 i0 (.int .i64 0) 1 8 Tryd.underlying48 hi hz0 hz1 hz2 rfl (by decide) _ _ _ rfl (O.out.alloc _) ⟨wr.heap.size, 0, none⟩ 1 1 [.int .i64 p] rfl rfl (cell_one_new _ _ _) (by intro u hu; simp at hu; subst hu; rfl) (by unfold maxLen; omega) (by omega) (by have := B.out.size; simp; omega) ?_)
          | go_in)
        intro v6 w6 h6 g6 _
        have hbase : w.heap.size ≤ (wr.alloc (.cells #[.int .i64 p] 3)).heap.size := by have := B.out.size; simp; omega
        have O6 : w6.ownsRow w.heap.size 3 1 v6 (k + 1) ((ixk s (k + 1)).map (Value.int .i64)) := by
          rw [HSK.out, List.map_append]
          exact h6
        have B6 := (B.out.alloc (Nat.le_trans B.out.size (Nat.le_refl _)) _).grown g6 hbase (fun k hk => (O.out.lt k hk).1)
        have HR := hide (And.intro O6 B6)
        obtain ⟨a6, c6, rfl, _, _⟩ := own_form O6
        clear h6 g6 O6 B6 hbase
        go_wp2
        go_roundw
        case rel => exact ⟨j + 1, by omega, by go_num, by rw [HK.out]; exact HR.out⟩
        case measure => simp [intOf]; omega
      · have hm : ¬ (j : Int).tmod 3 = 0 := by rw [Int.tmod_eq_emod_of_nonneg (by omega)]; omega
        have ek2 : (j + 1 + 2) / 3 = (j + 2) / 3 := by omega
        obtain ⟨p, hp⟩ : ∃ p : Int, p = (pl s 0 j : Int) := ⟨_, rfl⟩
        rw [← hp] at hc
        obtain ⟨k, hk⟩ : ∃ k, k = (j + 2) / 3 := ⟨_, rfl⟩
        rw [← hk] at hown ek2 ⊢
        have HK := hide ek2
        have O := hide hown
        have B := hide hbel
        clear hown hbel hp hc0 ek2 hk
        go_wp2
        go_roundw
        case rel => exact ⟨j + 1, by omega, by go_num, by rw [HK.out]; exact ⟨O.out, B.out⟩⟩
        case measure => simp [intOf]; omega
    · obtain rfl : j = n := by omega
      have hltI : ¬ (j : Int) < (j : Int) := by omega
      have E : ixk s ((j + 2) / 3) = ix s := by unfold ix; rw [HN.out]
      have E2 : (ix s).length = (j + 2) / 3 := by rw [← E, ixk_len]
      rw [E, ← E2] at hown
      rw [← E2]
      have O := hide hown
      clear E E2 hown
      go_wp2
      go_ret
      exact ⟨_, rfl, O.out, hbel⟩
end Go.Proofs.YtbcljhafdpnjbabDoor.L6

namespace Go.Proofs.YtbcljhafdpnjbabDoor.L6
open Go.RowKit L1
set_option linter.unusedVariables false

set_option maxRecDepth 100000 in
set_option maxHeartbeats 2000000 in
theorem l6Piece_any (f : Int) (s : ByteArray) (w : World) (hs : s.size ≤ 1048576) :
    Calls Tryd.prog 56 #[.int .i64 f, .string s] w fun e w' => ∃ v, e = .returned (.agg #[.int .i64 f, .string s, v]) ∧ w'.ownsRow w.heap.size 3 1 v (ix s).length ((ix s).map (Value.int .i64)) ∧ Below w.heap.size w w' := by
  obtain ⟨N, hN⟩ : ∃ N, N = (ix s).length := ⟨_, rfl⟩
  rw [← hN]
  have C1 := hide (fun w => l6Starts_any s w hs)
  have hcl := cnt_le s
  obtain ⟨m, hm⟩ : ∃ m, m = cnt s := ⟨_, rfl⟩
  have C2 := hide (fun a cap w hs => l6Index_any s a m cap w hm.symm (by omega) hs)
  rw [← hm] at C1
  obtain ⟨k, hk⟩ : ∃ k, k = wh s := ⟨_, rfl⟩
  rw [← hk] at C1
  clear hk hm
  go_enter Tryd.func56, Tryd.ntmps56
  go_wp2_with fail
  refine (C1.out _).mono ?_
  rintro e w1 ⟨v1, rfl, ho1, hb1⟩
  obtain ⟨a1, q1, rfl, s1, _⟩ := own_form ho1
  have G1 : w1.heap[w.heap.size]? = some (.cells #[.int .i64 0, .string ByteArray.empty, .slice none 0 0] 50 (0, 0)) := (hb1.block w.heap.size (by simp)).trans (blk_new _ _)
  have B1 := hide (((Below.refl w.heap.size w).alloc (Nat.le_refl _) (.cells #[.int .i64 0, .string ByteArray.empty, .slice none 0 0] 50 (0, 0))).trans (hb1.mono (by simp)))
  have hlt : w.heap.size < w1.heap.size := (Array.getElem?_eq_some_iff.1 G1).1
  have C3 := hide (fun wx (hb : Below w1.heap.size w1 wx) => (C2.out a1 q1 wx (s1.below hb)).mono (R' := fun e w2 => ∃ a2 q2, e = .returned (.slice a2 N q2) ∧ (w2.ownsRow w1.heap.size 3 1 (.slice a2 N q2) N ((ix s).map (Value.int .i64)) ∧ Below w1.heap.size w1 w2) ∧ (w2.cell? ⟨w.heap.size, 0, none⟩ = some (.int .i64 0) ∧ w2.cell? ⟨w.heap.size, 1, none⟩ = some (.string ByteArray.empty) ∧ w2.cell? ⟨w.heap.size, 2, none⟩ = some (.slice none 0 0) ∧ w2.frozen? ⟨w.heap.size, 0, none⟩ = false ∧ w2.frozen? ⟨w.heap.size, 1, none⟩ = false ∧ w2.frozen? ⟨w.heap.size, 2, none⟩ = false)) (by
    rintro e w2 ⟨v2, rfl, ho2, hb2⟩
    have hb3 := hb.trans (hb2.mono hb.size)
    rw [← hN] at ho2
    obtain ⟨a2, q2, rfl, _, _⟩ := own_form ho2
    exact ⟨a2, q2, rfl, ⟨own_baseC ho2 hb.size, hb3⟩, blk3 ((hb3.block w.heap.size (Array.getElem?_eq_some_iff.1 G1).1).trans G1)⟩))
  clear ho1 hb1 s1 G1 C2 hN
  go_wp2_with fail
  refine (C3.out _ (Below.refl _ _)).mono ?_
  rintro e w2 ⟨a2, q2, rfl, ho2, c0, c1, c2, c3, c4, c5⟩
  have H2 := hide ho2
  clear ho2
  go_wp2
  refine bodyPost_ret (v := .agg #[.int .i64 f, .string s, .slice a2 N q2]) (by simp [results, Tryd.f56, go_sem, c0, c1, c2]) rfl ⟨_, rfl, ?_, ?_⟩
  · exact own_setC (own_setC (own_setC (own_baseC H2.out.1 (Nat.le_refl _)) ⟨_, _, none⟩ _ hlt) ⟨_, _, none⟩ _ hlt) ⟨_, _, none⟩ _ hlt |> fun h => own_baseC h (Nat.le_of_lt hlt)
  · exact (((B1.out.trans (H2.out.2.mono B1.out.size)).setCell (p := ⟨_, _, none⟩) (Nat.le_refl _) _).setCell (p := ⟨_, _, none⟩) (Nat.le_refl _) _).setCell (p := ⟨_, _, none⟩) (Nat.le_refl _) _

set_option maxRecDepth 100000 in
set_option maxHeartbeats 1000000 in
theorem l1Same_any (a b : Option Addr) (xs ys : List Int) (n m c1 c2 : Nat) (w : World) (hn : xs.length = n) (hm : ys.length = m) (ha : Sl w a xs) (hb : Sl w b ys) (hn2 : n ≤ 9223372036854775807) (hm2 : m ≤ 9223372036854775807) (bb : Bool) (hbb : bb = true ↔ xs = ys) :
    Calls Tryd.prog 75 #[.slice a n c1, .slice b m c2] w fun e w' => e = .returned (.bool bb) ∧ Below w.heap.size w w' := by
  have HA := hide ha
  have HB := hide hb
  have HN := hide hn
  have HM := hide hm
  have HBB := hide hbb
  clear ha hb hn hm hbb
  by_cases hnm : n = m
  · subst hnm
    go_enter Tryd.func75, Tryd.ntmps75
    go_wp2
    go_loopw [13] (fun i wr => ∃ k : Nat, k ≤ n ∧ i = .int .i64 k ∧ Hid (∀ j, j < k → xs.getD j 0 = ys.getD j 0) ∧ Below w.heap.size w wr) (fun i _ => n - (intOf i).toNat)
    case atStart => exact ⟨0, Nat.zero_le _, rfl, fun j hj => absurd hj (Nat.not_lt_zero _), Below.refl _ _⟩
    case round =>
      obtain ⟨k, hk, rfl, HK, hbel⟩ := hrel
      by_cases hlt : k < n
      · obtain ⟨b1, o1, rfl, h1⟩ := HA.out k (by rw [HN.out]; exact hlt)
        obtain ⟨b2, o2, rfl, h2⟩ := HB.out k (by rw [HM.out]; exact hlt)
        have g1 := (hbel.cell (p := ⟨b1, o1 + k, none⟩) (blk_lt h1)).trans h1
        have g2 := (hbel.cell (p := ⟨b2, o2 + k, none⟩) (blk_lt h2)).trans h2
        obtain ⟨x, hx⟩ : ∃ x, x = xs.getD k 0 := ⟨_, rfl⟩
        obtain ⟨y, hy⟩ : ∃ y, y = ys.getD k 0 := ⟨_, rfl⟩
        rw [← hx] at g1
        rw [← hy] at g2
        have hltI : (k : Int) < (n : Int) := by omega
        clear h1 h2
        by_cases hxy : x = y
        · have HK2 : Hid (∀ j, j < k + 1 → xs.getD j 0 = ys.getD j 0) := fun j hj => by
            by_cases e : j = k
            · subst e; rw [← hx, ← hy, hxy]
            · exact HK.out j (by omega)
          clear hx hy
          subst hxy
          go_wp2
          go_quiet (fail)
          go_wp2
          go_roundw
          case rel => exact ⟨k + 1, by omega, by go_num, HK2.out, below_drewN hbel _⟩
          case measure => simp [intOf]; omega
        · have hE : bb = false := by
            cases bb with
            | false => rfl
            | true =>
              have := HBB.out.1 rfl
              exact absurd (by rw [hx, hy, this]) hxy
          subst hE
          clear hx hy
          go_wp2
          go_quiet (fail)
          go_wp2
          go_ret
          exact ⟨rfl, below_drewN hbel _⟩
      · obtain rfl : k = n := by omega
        have hltI : ¬ (k : Int) < (k : Int) := by omega
        have hE : bb = true := HBB.out.2 (list_same HM.out HN.out (fun j hj => HK.out j hj))
        subst hE
        go_wp2
        go_ret
        exact ⟨rfl, hbel⟩
  · have hE : bb = false := by
      cases bb with
      | false => rfl
      | true =>
        have := HBB.out.1 rfl
        have h1 := HN.out
        rw [this, HM.out] at h1
        exact absurd h1.symm hnm
    subst hE
    have hI : ¬ (n : Int) = (m : Int) := by omega
    go_enter Tryd.func75, Tryd.ntmps75
    go_wp2
    go_ret
    exact ⟨rfl, Below.refl _ _⟩

end Go.Proofs.YtbcljhafdpnjbabDoor.L6

namespace Go.Proofs.YtbcljhafdpnjbabDoor.L6
open Go.RowKit L1
set_option linter.unusedVariables false

open Classical in
noncomputable def many (p : Pc) : Int := if GoodP p then (cnt p.s : Int) else -1

set_option maxRecDepth 100000 in
set_option maxHeartbeats 4000000 in
theorem l6Many_any (f : Int) (s : ByteArray) (a : Option Addr) (xs : List Int) (n q : Nat) (w : World) (hn : xs.length = n) (ha : Sl w a xs) (hn2 : n ≤ 9223372036854775807) (hs : s.size ≤ 1048576) (r : Int) (hr : r = many ⟨f, s, xs⟩) :
    Calls Tryd.prog 64 #[.agg #[.int .i64 f, .string s, .slice a n q]] w fun e w' => e = .returned (.int .i64 r) ∧ Below w.heap.size w w' := by
  have C1 := hide (fun w => l6Starts_any s w hs)
  have hcl := cnt_le s
  have hwl := wh_le s
  have HR := hide hr
  have HA := hide ha
  have HN := hide hn
  obtain ⟨m, hm⟩ : ∃ m, m = cnt s := ⟨_, rfl⟩
  rw [← hm] at C1
  obtain ⟨k, hk⟩ : ∃ k, k = wh s := ⟨_, rfl⟩
  rw [← hk] at C1 hwl
  have HM := hide hm
  have HK := hide hk
  have hmm : m ≤ 1048576 := by omega
  clear hr ha hn hm hk hcl
  go_enter Tryd.func64, Tryd.ntmps64
  go_wp2_with fail
  refine (C1.out _).mono ?_
  rintro e w1 ⟨v1, rfl, ho1, hb1⟩
  obtain ⟨a1, q1, rfl, s1, _⟩ := own_form ho1
  have G1 : w1.heap[w.heap.size]? = some (.cells #[.int .i64 f, .string s, .slice a n q] 50 (0, 0)) := (hb1.block w.heap.size (by simp)).trans (blk_new _ _)
  obtain ⟨c0, c1, c2, _, _, _⟩ := blk3 G1
  have B1 := hide (((Below.refl w.heap.size w).alloc (Nat.le_refl _) (.cells #[.int .i64 f, .string s, .slice a n q] 50 (0, 0))).trans (hb1.mono (by simp)))
  have HS1 := hide s1
  clear ho1 hb1 G1 s1
  go_wp2
  by_cases h60 : (60 : Int) < (s.size : Int)
  · have hA : decide ((60 : Int) < (s.size : Int)) = true := decide_eq_true h60
    have E : Hid (r = -1) := by
      show r = -1
      rw [HR.out]
      unfold many
      rw [if_neg (fun h => by have := h.1; simp only at this; omega)]
    refine wp_region_held_drew (S := fun wx => (wx.cell? ⟨w.heap.size, 0, none⟩ = some (.int .i64 f) ∧ wx.cell? ⟨w.heap.size, 1, none⟩ = some (.string s) ∧ wx.cell? ⟨w.heap.size, 2, none⟩ = some (.slice a n q)) ∧ Below w1.heap.size w1 wx) (by kernel_rfl) ⟨⟨c0, c1, c2⟩, (Below.refl _ _).drew⟩ (fun hHeld => ?_)
    refine wpAnyH_take (i := 0) (v := ?v1) rfl (by kernel_rfl) (by kernel_rfl) (by kernel_rfl) (fun _ _ _ h => h) (Or.inl ⟨by rfl, ?y1⟩) (by assumption) ?r1
    case y1 => (intro w hSw; (try dsimp only at hSw); go_simp; try (with_reducible rfl))
    simp only [List.getElem_toArray, List.getElem_cons_zero, Act.put, List.setIfInBounds_toArray, List.set_cons_zero, List.set_cons_succ]
    refine wpAnyH_take (i := 1) (v := ?v2) rfl (by kernel_rfl) (by kernel_rfl) (by kernel_rfl) (fun _ _ _ h => h) (Or.inl ⟨by rfl, ?y2⟩) (by assumption) ?r2
    case y2 => (intro w hSw; (try dsimp only at hSw); go_simp; try (with_reducible rfl))
    simp only [List.getElem_toArray, List.getElem_cons_succ, List.getElem_cons_zero, Act.put, List.setIfInBounds_toArray, List.set_cons_zero, List.set_cons_succ]
    refine wpAnyH_take (i := 2) (v := ?v3) rfl (by kernel_rfl) (by kernel_rfl) (by kernel_rfl) (fun _ _ _ h => h) (Or.inl ⟨by rfl, ?y3⟩) (by assumption) ?r3
    case y3 => (intro w hSw; (try dsimp only at hSw); go_simp; try (with_reducible rfl))
    simp only [List.getElem_toArray, List.getElem_cons_succ, List.getElem_cons_zero, Act.put, List.setIfInBounds_toArray, List.set_cons_zero, List.set_cons_succ]
    refine wpAnyH_take (i := 3) (v := ?v4) rfl (by kernel_rfl) (by kernel_rfl) (by kernel_rfl) (fun _ _ _ h => h) (Or.inl ⟨by rfl, ?y4⟩) (by assumption) ?r4
    case y4 => (intro w hSw; (try dsimp only at hSw); go_simp; try (with_reducible rfl))
    simp only [List.getElem_toArray, List.getElem_cons_succ, List.getElem_cons_zero, Act.put, List.setIfInBounds_toArray, List.set_cons_zero, List.set_cons_succ]
    try simp only [hA]
    refine wpAnyH_take (i := 4) (v := ?v5) rfl (by kernel_rfl) (by kernel_rfl) (by kernel_rfl) (fun _ _ _ h => h) (Or.inl ⟨by rfl, ?y5⟩) (by assumption) ?r5
    case y5 => (intro w hSw; (try dsimp only at hSw); go_simp; try (with_reducible rfl))
    simp only [List.getElem_toArray, List.getElem_cons_succ, List.getElem_cons_zero, Act.put, List.setIfInBounds_toArray, List.set_cons_zero, List.set_cons_succ]
    refine wpAnyH_take (i := 5) (v := undef) rfl (by kernel_rfl) (by kernel_rfl) (by kernel_rfl) (fun _ _ _ h => h) (Or.inr ⟨by rfl, rfl⟩) (by assumption) ?_
    simp only [List.getElem_toArray, List.getElem_cons_succ, List.getElem_cons_zero, Act.put, List.setIfInBounds_toArray, List.set_cons_zero, List.set_cons_succ]
    refine wpAnyH_take (i := 6) (v := undef) rfl (by kernel_rfl) (by kernel_rfl) (by kernel_rfl) (fun _ _ _ h => h) (Or.inr ⟨by rfl, rfl⟩) (by assumption) ?_
    simp only [List.getElem_toArray, List.getElem_cons_succ, List.getElem_cons_zero, Act.put, List.setIfInBounds_toArray, List.set_cons_zero, List.set_cons_succ]
    refine wpAnyH_take (i := 7) (v := undef) rfl (by kernel_rfl) (by kernel_rfl) (by kernel_rfl) (fun _ _ _ h => h) (Or.inr ⟨by rfl, rfl⟩) (by assumption) ?_
    simp only [List.getElem_toArray, List.getElem_cons_succ, List.getElem_cons_zero, Act.put, List.setIfInBounds_toArray, List.set_cons_zero, List.set_cons_succ]
    refine wpAnyH_take (i := 8) (v := undef) rfl (by kernel_rfl) (by kernel_rfl) (by kernel_rfl) (fun _ _ _ h => h) (Or.inr ⟨by rfl, rfl⟩) (by assumption) ?_
    simp only [List.getElem_toArray, List.getElem_cons_succ, List.getElem_cons_zero, Act.put, List.setIfInBounds_toArray, List.set_cons_zero, List.set_cons_succ]
    refine wpAnyH_take (i := 9) (v := undef) rfl (by kernel_rfl) (by kernel_rfl) (by kernel_rfl) (fun _ _ _ h => h) (Or.inr ⟨by rfl, rfl⟩) (by assumption) ?_
    simp only [List.getElem_toArray, List.getElem_cons_succ, List.getElem_cons_zero, Act.put, List.setIfInBounds_toArray, List.set_cons_zero, List.set_cons_succ]
    refine wpAnyH_take (i := 10) (v := ?v11) rfl (by kernel_rfl) (by kernel_rfl) (by kernel_rfl) (fun _ _ _ h => h) (Or.inl ⟨by rfl, ?y11⟩) (by assumption) ?r11
    case y11 => (intro w hSw; (try dsimp only at hSw); go_simp; try (with_reducible rfl))
    simp only [List.getElem_toArray, List.getElem_cons_succ, List.getElem_cons_zero, Act.put, List.setIfInBounds_toArray, List.set_cons_zero, List.set_cons_succ]
    refine wpAnyH_take (i := 11) (v := ?v12) rfl (by kernel_rfl) (by kernel_rfl) (by kernel_rfl) (fun _ _ _ h => h) (Or.inl ⟨by rfl, ?y12⟩) (by assumption) ?r12
    case y12 => (intro w hSw; (try dsimp only at hSw); go_simp; try (with_reducible rfl))
    simp only [List.getElem_toArray, List.getElem_cons_succ, List.getElem_cons_zero, Act.put, List.setIfInBounds_toArray, List.set_cons_zero, List.set_cons_succ]
    refine wpAnyH_take (i := 12) (v := undef) rfl (by kernel_rfl) (by kernel_rfl) (by kernel_rfl) (fun _ _ _ h => h) (Or.inr ⟨by rfl, rfl⟩) (by assumption) ?_
    simp only [List.getElem_toArray, List.getElem_cons_succ, List.getElem_cons_zero, Act.put, List.setIfInBounds_toArray, List.set_cons_zero, List.set_cons_succ]
    refine wpAnyH_take (i := 13) (v := undef) rfl (by kernel_rfl) (by kernel_rfl) (by kernel_rfl) (fun _ _ _ h => h) (Or.inr ⟨by rfl, rfl⟩) (by assumption) ?_
    simp only [List.getElem_toArray, List.getElem_cons_succ, List.getElem_cons_zero, Act.put, List.setIfInBounds_toArray, List.set_cons_zero, List.set_cons_succ]
    refine wpAnyH_take (i := 14) (v := undef) rfl (by kernel_rfl) (by kernel_rfl) (by kernel_rfl) (fun _ _ _ h => h) (Or.inr ⟨by rfl, rfl⟩) (by assumption) ?_
    simp only [List.getElem_toArray, List.getElem_cons_succ, List.getElem_cons_zero, Act.put, List.setIfInBounds_toArray, List.set_cons_zero, List.set_cons_succ]
    refine wpAnyH_take (i := 15) (v := undef) rfl (by kernel_rfl) (by kernel_rfl) (by kernel_rfl) (fun _ _ _ h => h) (Or.inr ⟨by rfl, rfl⟩) (by assumption) ?_
    simp only [List.getElem_toArray, List.getElem_cons_succ, List.getElem_cons_zero, Act.put, List.setIfInBounds_toArray, List.set_cons_zero, List.set_cons_succ]
    refine wpAnyH_take (i := 16) (v := undef) rfl (by kernel_rfl) (by kernel_rfl) (by kernel_rfl) (fun _ _ _ h => h) (Or.inr ⟨by rfl, rfl⟩) (by assumption) ?_
    simp only [List.getElem_toArray, List.getElem_cons_succ, List.getElem_cons_zero, Act.put, List.setIfInBounds_toArray, List.set_cons_zero, List.set_cons_succ]
    refine wpAnyH_take (i := 17) (v := undef) rfl (by kernel_rfl) (by kernel_rfl) (by kernel_rfl) (fun _ _ _ h => h) (Or.inr ⟨by rfl, rfl⟩) (by assumption) ?_
    simp only [List.getElem_toArray, List.getElem_cons_succ, List.getElem_cons_zero, Act.put, List.setIfInBounds_toArray, List.set_cons_zero, List.set_cons_succ]
    refine wpAnyH_take (i := 18) (v := ?v19) rfl (by kernel_rfl) (by kernel_rfl) (by kernel_rfl) (fun _ _ _ h => h) (Or.inl ⟨by rfl, ?y19⟩) (by assumption) ?r19
    case y19 => (intro w hSw; (try dsimp only at hSw); go_simp; try (with_reducible rfl))
    simp only [List.getElem_toArray, List.getElem_cons_succ, List.getElem_cons_zero, Act.put, List.setIfInBounds_toArray, List.set_cons_zero, List.set_cons_succ]
    refine wpAnyH_done (by kernel_rfl) ?_ _
    have B2 := hide (B1.out.trans (hHeld.2.mono B1.out.size))
    clear hHeld
    go_wp2
    go_ret
    exact ⟨by rw [E.out]; rfl, B2.out⟩
  · have hA : decide ((60 : Int) < (s.size : Int)) = false := decide_eq_false h60
    by_cases hws : (k : Int) < (s.size : Int)
    · have hB : decide ((k : Int) < (s.size : Int)) = true := decide_eq_true hws
      have E : Hid (r = -1) := by
        show r = -1
        rw [HR.out]
        unfold many
        rw [if_neg (fun h => by have := h.2.1; simp only at this; rw [← HK.out] at this; omega)]
      refine wp_region_held_drew (S := fun wx => (wx.cell? ⟨w.heap.size, 0, none⟩ = some (.int .i64 f) ∧ wx.cell? ⟨w.heap.size, 1, none⟩ = some (.string s) ∧ wx.cell? ⟨w.heap.size, 2, none⟩ = some (.slice a n q)) ∧ Below w1.heap.size w1 wx) (by kernel_rfl) ⟨⟨c0, c1, c2⟩, (Below.refl _ _).drew⟩ (fun hHeld => ?_)
      refine wpAnyH_take (i := 0) (v := ?v20) rfl (by kernel_rfl) (by kernel_rfl) (by kernel_rfl) (fun _ _ _ h => h) (Or.inl ⟨by rfl, ?y20⟩) (by assumption) ?r20
      case y20 => (intro w hSw; (try dsimp only at hSw); go_simp; try (with_reducible rfl))
      simp only [List.getElem_toArray, List.getElem_cons_zero, Act.put, List.setIfInBounds_toArray, List.set_cons_zero, List.set_cons_succ]
      refine wpAnyH_take (i := 1) (v := ?v21) rfl (by kernel_rfl) (by kernel_rfl) (by kernel_rfl) (fun _ _ _ h => h) (Or.inl ⟨by rfl, ?y21⟩) (by assumption) ?r21
      case y21 => (intro w hSw; (try dsimp only at hSw); go_simp; try (with_reducible rfl))
      simp only [List.getElem_toArray, List.getElem_cons_succ, List.getElem_cons_zero, Act.put, List.setIfInBounds_toArray, List.set_cons_zero, List.set_cons_succ]
      refine wpAnyH_take (i := 2) (v := ?v22) rfl (by kernel_rfl) (by kernel_rfl) (by kernel_rfl) (fun _ _ _ h => h) (Or.inl ⟨by rfl, ?y22⟩) (by assumption) ?r22
      case y22 => (intro w hSw; (try dsimp only at hSw); go_simp; try (with_reducible rfl))
      simp only [List.getElem_toArray, List.getElem_cons_succ, List.getElem_cons_zero, Act.put, List.setIfInBounds_toArray, List.set_cons_zero, List.set_cons_succ]
      refine wpAnyH_take (i := 3) (v := ?v23) rfl (by kernel_rfl) (by kernel_rfl) (by kernel_rfl) (fun _ _ _ h => h) (Or.inl ⟨by rfl, ?y23⟩) (by assumption) ?r23
      case y23 => (intro w hSw; (try dsimp only at hSw); go_simp; try (with_reducible rfl))
      simp only [List.getElem_toArray, List.getElem_cons_succ, List.getElem_cons_zero, Act.put, List.setIfInBounds_toArray, List.set_cons_zero, List.set_cons_succ]
      try simp only [hA]
      refine wpAnyH_take (i := 4) (v := ?v24) rfl (by kernel_rfl) (by kernel_rfl) (by kernel_rfl) (fun _ _ _ h => h) (Or.inl ⟨by rfl, ?y24⟩) (by assumption) ?r24
      case y24 => (intro w hSw; (try dsimp only at hSw); go_simp; try (with_reducible rfl))
      simp only [List.getElem_toArray, List.getElem_cons_succ, List.getElem_cons_zero, Act.put, List.setIfInBounds_toArray, List.set_cons_zero, List.set_cons_succ]
      refine wpAnyH_take (i := 5) (v := ?v25) rfl (by kernel_rfl) (by kernel_rfl) (by kernel_rfl) (fun _ _ _ h => h) (Or.inl ⟨by rfl, ?y25⟩) (by assumption) ?r25
      case y25 => (intro w hSw; (try dsimp only at hSw); go_simp; try (with_reducible rfl))
      simp only [List.getElem_toArray, List.getElem_cons_succ, List.getElem_cons_zero, Act.put, List.setIfInBounds_toArray, List.set_cons_zero, List.set_cons_succ]
      refine wpAnyH_take (i := 6) (v := ?v26) rfl (by kernel_rfl) (by kernel_rfl) (by kernel_rfl) (fun _ _ _ h => h) (Or.inl ⟨by rfl, ?y26⟩) (by assumption) ?r26
      case y26 => (intro w hSw; (try dsimp only at hSw); go_simp; try (with_reducible rfl))
      simp only [List.getElem_toArray, List.getElem_cons_succ, List.getElem_cons_zero, Act.put, List.setIfInBounds_toArray, List.set_cons_zero, List.set_cons_succ]
      refine wpAnyH_take (i := 7) (v := ?v27) rfl (by kernel_rfl) (by kernel_rfl) (by kernel_rfl) (fun _ _ _ h => h) (Or.inl ⟨by rfl, ?y27⟩) (by assumption) ?r27
      case y27 => (intro w hSw; (try dsimp only at hSw); go_simp; try (with_reducible rfl))
      simp only [List.getElem_toArray, List.getElem_cons_succ, List.getElem_cons_zero, Act.put, List.setIfInBounds_toArray, List.set_cons_zero, List.set_cons_succ]
      refine wpAnyH_take (i := 8) (v := ?v28) rfl (by kernel_rfl) (by kernel_rfl) (by kernel_rfl) (fun _ _ _ h => h) (Or.inl ⟨by rfl, ?y28⟩) (by assumption) ?r28
      case y28 => (intro w hSw; (try dsimp only at hSw); go_simp; try (with_reducible rfl))
      simp only [List.getElem_toArray, List.getElem_cons_succ, List.getElem_cons_zero, Act.put, List.setIfInBounds_toArray, List.set_cons_zero, List.set_cons_succ]
      refine wpAnyH_take (i := 9) (v := ?v29) rfl (by kernel_rfl) (by kernel_rfl) (by kernel_rfl) (fun _ _ _ h => h) (Or.inl ⟨by rfl, ?y29⟩) (by assumption) ?r29
      case y29 => (intro w hSw; (try dsimp only at hSw); go_simp; try (with_reducible rfl))
      simp only [List.getElem_toArray, List.getElem_cons_succ, List.getElem_cons_zero, Act.put, List.setIfInBounds_toArray, List.set_cons_zero, List.set_cons_succ]
      try simp only [hB]
      refine wpAnyH_take (i := 10) (v := ?v30) rfl (by kernel_rfl) (by kernel_rfl) (by kernel_rfl) (fun _ _ _ h => h) (Or.inl ⟨by rfl, ?y30⟩) (by assumption) ?r30
      case y30 => (intro w hSw; (try dsimp only at hSw); go_simp; try (with_reducible rfl))
      simp only [List.getElem_toArray, List.getElem_cons_succ, List.getElem_cons_zero, Act.put, List.setIfInBounds_toArray, List.set_cons_zero, List.set_cons_succ]
      refine wpAnyH_take (i := 11) (v := ?v31) rfl (by kernel_rfl) (by kernel_rfl) (by kernel_rfl) (fun _ _ _ h => h) (Or.inl ⟨by rfl, ?y31⟩) (by assumption) ?r31
      case y31 => (intro w hSw; (try dsimp only at hSw); go_simp; try (with_reducible rfl))
      simp only [List.getElem_toArray, List.getElem_cons_succ, List.getElem_cons_zero, Act.put, List.setIfInBounds_toArray, List.set_cons_zero, List.set_cons_succ]
      refine wpAnyH_take (i := 12) (v := undef) rfl (by kernel_rfl) (by kernel_rfl) (by kernel_rfl) (fun _ _ _ h => h) (Or.inr ⟨by rfl, rfl⟩) (by assumption) ?_
      simp only [List.getElem_toArray, List.getElem_cons_succ, List.getElem_cons_zero, Act.put, List.setIfInBounds_toArray, List.set_cons_zero, List.set_cons_succ]
      refine wpAnyH_take (i := 13) (v := undef) rfl (by kernel_rfl) (by kernel_rfl) (by kernel_rfl) (fun _ _ _ h => h) (Or.inr ⟨by rfl, rfl⟩) (by assumption) ?_
      simp only [List.getElem_toArray, List.getElem_cons_succ, List.getElem_cons_zero, Act.put, List.setIfInBounds_toArray, List.set_cons_zero, List.set_cons_succ]
      refine wpAnyH_take (i := 14) (v := undef) rfl (by kernel_rfl) (by kernel_rfl) (by kernel_rfl) (fun _ _ _ h => h) (Or.inr ⟨by rfl, rfl⟩) (by assumption) ?_
      simp only [List.getElem_toArray, List.getElem_cons_succ, List.getElem_cons_zero, Act.put, List.setIfInBounds_toArray, List.set_cons_zero, List.set_cons_succ]
      refine wpAnyH_take (i := 15) (v := undef) rfl (by kernel_rfl) (by kernel_rfl) (by kernel_rfl) (fun _ _ _ h => h) (Or.inr ⟨by rfl, rfl⟩) (by assumption) ?_
      simp only [List.getElem_toArray, List.getElem_cons_succ, List.getElem_cons_zero, Act.put, List.setIfInBounds_toArray, List.set_cons_zero, List.set_cons_succ]
      refine wpAnyH_take (i := 16) (v := undef) rfl (by kernel_rfl) (by kernel_rfl) (by kernel_rfl) (fun _ _ _ h => h) (Or.inr ⟨by rfl, rfl⟩) (by assumption) ?_
      simp only [List.getElem_toArray, List.getElem_cons_succ, List.getElem_cons_zero, Act.put, List.setIfInBounds_toArray, List.set_cons_zero, List.set_cons_succ]
      refine wpAnyH_take (i := 17) (v := undef) rfl (by kernel_rfl) (by kernel_rfl) (by kernel_rfl) (fun _ _ _ h => h) (Or.inr ⟨by rfl, rfl⟩) (by assumption) ?_
      simp only [List.getElem_toArray, List.getElem_cons_succ, List.getElem_cons_zero, Act.put, List.setIfInBounds_toArray, List.set_cons_zero, List.set_cons_succ]
      refine wpAnyH_take (i := 18) (v := ?v38) rfl (by kernel_rfl) (by kernel_rfl) (by kernel_rfl) (fun _ _ _ h => h) (Or.inl ⟨by rfl, ?y38⟩) (by assumption) ?r38
      case y38 => (intro w hSw; (try dsimp only at hSw); go_simp; try (with_reducible rfl))
      simp only [List.getElem_toArray, List.getElem_cons_succ, List.getElem_cons_zero, Act.put, List.setIfInBounds_toArray, List.set_cons_zero, List.set_cons_succ]
      refine wpAnyH_done (by kernel_rfl) ?_ _
      have B2 := hide (B1.out.trans (hHeld.2.mono B1.out.size))
      clear hHeld
      go_wp2
      go_ret
      exact ⟨by rw [E.out]; rfl, B2.out⟩
    · have hB : decide ((k : Int) < (s.size : Int)) = false := decide_eq_false hws
      obtain ⟨N, hN⟩ : ∃ N, N = (ix s).length := ⟨_, rfl⟩
      have hN2 : N ≤ 1048576 := by
        rw [hN]
        unfold ix
        rw [ixk_len, ← HM.out]
        omega
      obtain ⟨bb, hbb⟩ : ∃ bb : Bool, bb = true ↔ xs = ix s := ⟨decide (xs = ix s), by simp⟩
      have C2 := hide (fun wx (hb : Below w1.heap.size w1 wx) => (l6Index_any s a1 m q1 wx HM.out.symm hmm (HS1.out.below hb)).mono (R' := fun e w2 => ∃ a2 q2, e = .returned (.slice a2 N q2) ∧ w2.ownsRow wx.heap.size 3 1 (.slice a2 N q2) N ((ix s).map (Value.int .i64)) ∧ Below wx.heap.size wx w2) (by
        rintro e w2 ⟨v2, rfl, ho2, hb2⟩
        rw [← hN] at ho2
        obtain ⟨a2, q2, rfl, _, _⟩ := own_form ho2
        exact ⟨a2, q2, rfl, ho2, hb2⟩))
      have C3 := hide (fun a2 c2 wx h1 h2 => l1Same_any a a2 xs (ix s) n N q c2 wx HN.out hN.symm h1 h2 hn2 (by omega) bb hbb)
      have E : Hid (r = if bb then (m : Int) else -1) := by
        show r = _
        rw [HR.out, HM.out]
        unfold many
        cases bb with
        | true =>
          rw [if_pos (show GoodP ⟨f, s, xs⟩ from ⟨by simp only; omega, by simp only; rw [← HK.out]; omega, hbb.1 rfl⟩)]
          rfl
        | false =>
          rw [if_neg (show ¬ GoodP ⟨f, s, xs⟩ from fun h => absurd (hbb.2 h.2.2) (by simp))]
          rfl
      clear hN hbb
      refine wp_region_held_drew (S := fun wx => (wx.cell? ⟨w.heap.size, 0, none⟩ = some (.int .i64 f) ∧ wx.cell? ⟨w.heap.size, 1, none⟩ = some (.string s) ∧ wx.cell? ⟨w.heap.size, 2, none⟩ = some (.slice a n q)) ∧ Below w1.heap.size w1 wx) (by kernel_rfl) ⟨⟨c0, c1, c2⟩, (Below.refl _ _).drew⟩ (fun hHeld => ?_)
      refine wpAnyH_take (i := 0) (v := ?v39) rfl (by kernel_rfl) (by kernel_rfl) (by kernel_rfl) (fun _ _ _ h => h) (Or.inl ⟨by rfl, ?y39⟩) (by assumption) ?r39
      case y39 => (intro w hSw; (try dsimp only at hSw); go_simp; try (with_reducible rfl))
      simp only [List.getElem_toArray, List.getElem_cons_zero, Act.put, List.setIfInBounds_toArray, List.set_cons_zero, List.set_cons_succ]
      refine wpAnyH_take (i := 1) (v := ?v40) rfl (by kernel_rfl) (by kernel_rfl) (by kernel_rfl) (fun _ _ _ h => h) (Or.inl ⟨by rfl, ?y40⟩) (by assumption) ?r40
      case y40 => (intro w hSw; (try dsimp only at hSw); go_simp; try (with_reducible rfl))
      simp only [List.getElem_toArray, List.getElem_cons_succ, List.getElem_cons_zero, Act.put, List.setIfInBounds_toArray, List.set_cons_zero, List.set_cons_succ]
      refine wpAnyH_take (i := 2) (v := ?v41) rfl (by kernel_rfl) (by kernel_rfl) (by kernel_rfl) (fun _ _ _ h => h) (Or.inl ⟨by rfl, ?y41⟩) (by assumption) ?r41
      case y41 => (intro w hSw; (try dsimp only at hSw); go_simp; try (with_reducible rfl))
      simp only [List.getElem_toArray, List.getElem_cons_succ, List.getElem_cons_zero, Act.put, List.setIfInBounds_toArray, List.set_cons_zero, List.set_cons_succ]
      refine wpAnyH_take (i := 3) (v := ?v42) rfl (by kernel_rfl) (by kernel_rfl) (by kernel_rfl) (fun _ _ _ h => h) (Or.inl ⟨by rfl, ?y42⟩) (by assumption) ?r42
      case y42 => (intro w hSw; (try dsimp only at hSw); go_simp; try (with_reducible rfl))
      simp only [List.getElem_toArray, List.getElem_cons_succ, List.getElem_cons_zero, Act.put, List.setIfInBounds_toArray, List.set_cons_zero, List.set_cons_succ]
      try simp only [hA]
      refine wpAnyH_take (i := 4) (v := ?v43) rfl (by kernel_rfl) (by kernel_rfl) (by kernel_rfl) (fun _ _ _ h => h) (Or.inl ⟨by rfl, ?y43⟩) (by assumption) ?r43
      case y43 => (intro w hSw; (try dsimp only at hSw); go_simp; try (with_reducible rfl))
      simp only [List.getElem_toArray, List.getElem_cons_succ, List.getElem_cons_zero, Act.put, List.setIfInBounds_toArray, List.set_cons_zero, List.set_cons_succ]
      refine wpAnyH_take (i := 5) (v := ?v44) rfl (by kernel_rfl) (by kernel_rfl) (by kernel_rfl) (fun _ _ _ h => h) (Or.inl ⟨by rfl, ?y44⟩) (by assumption) ?r44
      case y44 => (intro w hSw; (try dsimp only at hSw); go_simp; try (with_reducible rfl))
      simp only [List.getElem_toArray, List.getElem_cons_succ, List.getElem_cons_zero, Act.put, List.setIfInBounds_toArray, List.set_cons_zero, List.set_cons_succ]
      refine wpAnyH_take (i := 6) (v := ?v45) rfl (by kernel_rfl) (by kernel_rfl) (by kernel_rfl) (fun _ _ _ h => h) (Or.inl ⟨by rfl, ?y45⟩) (by assumption) ?r45
      case y45 => (intro w hSw; (try dsimp only at hSw); go_simp; try (with_reducible rfl))
      simp only [List.getElem_toArray, List.getElem_cons_succ, List.getElem_cons_zero, Act.put, List.setIfInBounds_toArray, List.set_cons_zero, List.set_cons_succ]
      refine wpAnyH_take (i := 7) (v := ?v46) rfl (by kernel_rfl) (by kernel_rfl) (by kernel_rfl) (fun _ _ _ h => h) (Or.inl ⟨by rfl, ?y46⟩) (by assumption) ?r46
      case y46 => (intro w hSw; (try dsimp only at hSw); go_simp; try (with_reducible rfl))
      simp only [List.getElem_toArray, List.getElem_cons_succ, List.getElem_cons_zero, Act.put, List.setIfInBounds_toArray, List.set_cons_zero, List.set_cons_succ]
      refine wpAnyH_take (i := 8) (v := ?v47) rfl (by kernel_rfl) (by kernel_rfl) (by kernel_rfl) (fun _ _ _ h => h) (Or.inl ⟨by rfl, ?y47⟩) (by assumption) ?r47
      case y47 => (intro w hSw; (try dsimp only at hSw); go_simp; try (with_reducible rfl))
      simp only [List.getElem_toArray, List.getElem_cons_succ, List.getElem_cons_zero, Act.put, List.setIfInBounds_toArray, List.set_cons_zero, List.set_cons_succ]
      refine wpAnyH_take (i := 9) (v := ?v48) rfl (by kernel_rfl) (by kernel_rfl) (by kernel_rfl) (fun _ _ _ h => h) (Or.inl ⟨by rfl, ?y48⟩) (by assumption) ?r48
      case y48 => (intro w hSw; (try dsimp only at hSw); go_simp; try (with_reducible rfl))
      simp only [List.getElem_toArray, List.getElem_cons_succ, List.getElem_cons_zero, Act.put, List.setIfInBounds_toArray, List.set_cons_zero, List.set_cons_succ]
      try simp only [hB]
      refine wpAnyH_take (i := 10) (v := ?v49) rfl (by kernel_rfl) (by kernel_rfl) (by kernel_rfl) (fun _ _ _ h => h) (Or.inl ⟨by rfl, ?y49⟩) (by assumption) ?r49
      case y49 => (intro w hSw; (try dsimp only at hSw); go_simp; try (with_reducible rfl))
      simp only [List.getElem_toArray, List.getElem_cons_succ, List.getElem_cons_zero, Act.put, List.setIfInBounds_toArray, List.set_cons_zero, List.set_cons_succ]
      refine wpAnyH_take (i := 11) (v := ?v50) rfl (by kernel_rfl) (by kernel_rfl) (by kernel_rfl) (fun _ _ _ h => h) (Or.inl ⟨by rfl, ?y50⟩) (by assumption) ?r50
      case y50 => (intro w hSw; (try dsimp only at hSw); go_simp; try (with_reducible rfl))
      simp only [List.getElem_toArray, List.getElem_cons_succ, List.getElem_cons_zero, Act.put, List.setIfInBounds_toArray, List.set_cons_zero, List.set_cons_succ]
      refine wpAnyH_take (i := 12) (v := ?v51) rfl (by kernel_rfl) (by kernel_rfl) (by kernel_rfl) (fun _ _ _ h => h) (Or.inl ⟨by rfl, ?y51⟩) (by assumption) ?r51
      case y51 => (intro w hSw; (try dsimp only at hSw); go_simp; try (with_reducible rfl))
      simp only [List.getElem_toArray, List.getElem_cons_succ, List.getElem_cons_zero, Act.put, List.setIfInBounds_toArray, List.set_cons_zero, List.set_cons_succ]
      refine wpAnyH_take (i := 13) (v := ?v52) rfl (by kernel_rfl) (by kernel_rfl) (by kernel_rfl) (fun _ _ _ h => h) (Or.inl ⟨by rfl, ?y52⟩) (by assumption) ?r52
      case y52 => (intro w hSw; (try dsimp only at hSw); go_simp; try (with_reducible rfl))
      simp only [List.getElem_toArray, List.getElem_cons_succ, List.getElem_cons_zero, Act.put, List.setIfInBounds_toArray, List.set_cons_zero, List.set_cons_succ]
      refine wpAnyH_take (i := 14) (v := ?v53) rfl (by kernel_rfl) (by kernel_rfl) (by kernel_rfl) (fun _ _ _ h => h) (Or.inl ⟨by rfl, ?y53⟩) (by assumption) ?r53
      case y53 => (intro w hSw; (try dsimp only at hSw); go_simp; try (with_reducible rfl))
      simp only [List.getElem_toArray, List.getElem_cons_succ, List.getElem_cons_zero, Act.put, List.setIfInBounds_toArray, List.set_cons_zero, List.set_cons_succ]
      refine wpAnyH_ready (rs := [15]) (by kernel_rfl) (by simp) ?_
      refine AllReadyH.cons rfl (fun K hK => ?_) AllReadyH.nil
      simp only [List.getElem_toArray, List.getElem_cons_succ, List.getElem_cons_zero]
      go_simp
      go_at_call 73
      refine (C2.out _ (hHeld.2)).mono ?_
      rintro e w2 ⟨a2, q2, rfl, ho2, hb2⟩
      have HO2 := hide ho2
      clear ho2
      dsimp only
      refine hK.out _ _ ?_ (fun hHeld => ?_)
      · exact keep3 hHeld hb2 (Nat.le_refl _)
      clear hK K
      try simp only [Act.put, List.setIfInBounds_toArray, List.set_cons_zero, List.set_cons_succ]
      refine wpAnyH_ready (rs := [16]) (by kernel_rfl) (by simp) ?_
      refine AllReadyH.cons rfl (fun K hK => ?_) AllReadyH.nil
      simp only [List.getElem_toArray, List.getElem_cons_succ, List.getElem_cons_zero]
      go_simp
      go_at_call 75
      refine (C3.out _ _ _ (HA.out.below (B1.out.trans (hHeld.2.mono B1.out.size))) (own_slI6 HO2.out)).mono ?_
      rintro e w3 ⟨rfl, hb3⟩
      dsimp only
      refine hK.out _ _ ?_ (fun hHeld => ?_)
      · exact keep3 (by assumption) hb3 (Nat.le_refl _)
      clear hK K
      try simp only [Act.put, List.setIfInBounds_toArray, List.set_cons_zero, List.set_cons_succ]
      refine wpAnyH_take (i := 17) (v := ?v54) rfl (by kernel_rfl) (by kernel_rfl) (by kernel_rfl) (fun _ _ _ h => h) (Or.inl ⟨by rfl, ?y54⟩) (by assumption) ?r54
      case y54 => (intro w hSw; (try dsimp only at hSw); go_simp; try (with_reducible rfl))
      simp only [List.getElem_toArray, List.getElem_cons_succ, List.getElem_cons_zero, Act.put, List.setIfInBounds_toArray, List.set_cons_zero, List.set_cons_succ]
      refine wpAnyH_take (i := 18) (v := ?v55) rfl (by kernel_rfl) (by kernel_rfl) (by kernel_rfl) (fun _ _ _ h => h) (Or.inl ⟨by rfl, ?y55⟩) (by assumption) ?r55
      case y55 => (intro w hSw; (try dsimp only at hSw); go_simp; try (with_reducible rfl))
      simp only [List.getElem_toArray, List.getElem_cons_succ, List.getElem_cons_zero, Act.put, List.setIfInBounds_toArray, List.set_cons_zero, List.set_cons_succ]
      refine wpAnyH_done (by kernel_rfl) ?_ _
      have B2 := hide (B1.out.trans (hHeld.2.mono B1.out.size))
      clear hHeld
      cases bb with
      | true =>
        go_wp2
        go_ret
        exact ⟨by rw [E.out]; rfl, B2.out⟩
      | false =>
        go_wp2
        go_ret
        exact ⟨by rw [E.out]; rfl, B2.out⟩
end Go.Proofs.YtbcljhafdpnjbabDoor.L6

namespace Go.Proofs.YtbcljhafdpnjbabDoor.L6
open Go.RowKit L1
set_option linter.unusedVariables false

/-- Texts and lists are no longer than a law lets them be. -/
def SzC (l : List Pc) : Prop := ∀ j, j < l.length → (gc l j).s.size ≤ 1048576 ∧ (gc l j).x.length ≤ 1048576
theorem SzC.tx {l : List Pc} (h : SzC l) : TxC l := fun j hj => ⟨Nat.le_trans (h j hj).1 (by omega), Nat.le_trans (h j hj).2 (by omega)⟩
theorem bool_no6 {bb : Bool} {P : Prop} (h : bb = true ↔ P) (hn : ¬ P) : bb = false := by
  cases bb with
  | false => rfl
  | true => exact absurd (h.1 rfl) hn
theorem blk2s {w : World} {g : Nat} {a b : Value} {t : TypeId} (h : w.heap[g]? = some (.cells #[a, b] t (0, 0))) :
    w.cell? ⟨g, 0, none⟩ = some a ∧ w.cell? ⟨g, 1, none⟩ = some b := by
  simp [World.cell?, h]

open Classical in
set_option maxRecDepth 100000 in
set_option maxHeartbeats 4000000 in
theorem specGoodLog_any (a : Option Addr) (L : List Pc) (n cap : Nat) (B : Int) (w : World) (hn : L.length = n) (hm : n ≤ 9223372036854775807) (hs : SlC w a L) (hsz : SzC L) (bb : Bool) (hbb : bb = true ↔ GoodG L B) :
    Calls Tryd.prog 38 #[.agg #[.slice a n cap, .int .i64 B]] w fun e w' => e = .returned (.bool bb) ∧ Below w.heap.size w w' := by
  by_cases h1 : 1 ≤ (n : Int) ∧ (n : Int) ≤ 20
  · have CL := hide (fun w => l1In_any (n : Int) 1 20 w true (by simp; omega))
    have hn1 : 1 ≤ n := by omega
    have hn0 : 0 < n := by omega
    have hn20 : n ≤ 20 := by omega
    obtain ⟨b, off, rfl, a0, c0, hat0⟩ := hs 0 (by rw [hn]; omega)
    have hk0 := hat0.f
    rw [Nat.zero_mul, Nat.add_zero] at hk0
    rw [show L.getD 0 eC = gc L 0 from rfl] at hk0
    obtain ⟨f0, hf0⟩ : ∃ f0, f0 = (gc L 0).f := ⟨_, rfl⟩
    rw [← hf0] at hk0
    have e1 : ∀ ob, (w.alloc ob).cell? ⟨b, off, none⟩ = some (.int .i64 f0) := fun ob => Go.Lib.cell?_alloc_some ob hk0
    have HF0 := hide hf0
    have HS := hide hs
    have HN := hide hn
    have HSZ := hide hsz
    have HBB := hide hbb
    clear hs hn hsz hbb hat0 hf0 h1
    by_cases hf : 0 ≤ f0 ∧ f0 ≤ 100000
    · have CF := hide (fun w => l1In_any f0 0 100000 w true (by simp; omega))
      have E : Hid (GoodPs L → ((gc L 0).f ≤ B ∧ B ≤ (gc L 0).f + (cnt (gc L 0).s : Int)) → (GoodG L B ↔ atg L n - f0 ≤ 60)) := fun hp hB => by
        constructor
        · intro h
          have := h.few
          rw [HN.out, ← HF0.out] at this
          exact this
        · intro h
          exact ⟨by rw [HN.out]; omega, by rw [HN.out]; omega, by rw [← HF0.out]; omega, by rw [← HF0.out]; omega, hp, hB.1, hB.2, by rw [HN.out, ← HF0.out]; exact h⟩
      go_enter Tryd.func38, Tryd.ntmps38
      go_wp2_with fail
      refine (CL.out _).mono ?_
      rintro e w1 ⟨rfl, rfl⟩
      go_wp2_with fail
      refine (CF.out _).mono ?_
      rintro e w1 ⟨rfl, rfl⟩
      go_wp2
      go_loopw [3, 29] (fun t i wr => ∃ k : Nat, k ≤ n ∧ i = .int .i64 k ∧ t = .int .i64 (atg L k) ∧ Hid (∀ j, j < k → OkC L j) ∧ Hid (0 < k → (gc L 0).f ≤ B ∧ B ≤ (gc L 0).f + (cnt (gc L 0).s : Int)) ∧ Below w.heap.size w wr ∧ wr.cell? ⟨w.heap.size, 0, none⟩ = some (.slice (some ⟨b, off, none⟩) n cap) ∧ wr.cell? ⟨w.heap.size, 1, none⟩ = some (.int .i64 B)) (fun _ i _ => n - (intOf i).toNat)
      case atStart =>
        obtain ⟨q0, q1⟩ := blk2s (blk_new w (.cells #[.slice (some ⟨b, off, none⟩) n cap, .int .i64 B] 25 (0, 0)))
        exact ⟨0, Nat.zero_le _, rfl, by rw [HF0.out]; rfl, fun j hj => absurd hj (Nat.not_lt_zero _), fun h => absurd h (Nat.lt_irrefl _), (Below.refl _ _).alloc (Nat.le_refl _) _, q0, q1⟩
      case round =>
        obtain ⟨k, hk, rfl, rfl, HK, HB0, hbel, g0, g1⟩ := hrel
        by_cases hlt : k < n
        · obtain ⟨b', off', hab, ai, ci, hat⟩ := HS.out.below hbel k (by rw [HN.out]; exact hlt)
          cases hab
          have hltI : (k : Int) < (n : Int) := by omega
          have hsx := HSZ.out k (by rw [HN.out]; exact hlt)
          have hgb := atg_bd L k (fun j hj => (HK.out j hj).1)
          have hok : GoodG L B → OkC L k := fun h => h.ps k (by rw [HN.out]; exact hlt)
          have hnext : atg L (k + 1) = atg L k + (cnt (gc L k).s : Int) := rfl
          have hstep : OkC L k → ∀ j, j < k + 1 → OkC L j := fun h j hj => by
            by_cases e : j = k
            · subst e; exact h
            · exact HK.out j (by omega)
          have hOk : OkC L k ↔ GoodP (gc L k) ∧ (gc L k).f = atg L k ∧ (k + 1 < n → cnt (gc L k).s ≠ 0) := by unfold OkC; rw [HN.out]
          have h0e : k = 0 → gc L 0 = gc L k := fun e => by rw [e]
          have hd1 := hat.f
          have hd2 := hat.s
          have hd3 := hat.x
          have hd4 := hat.l
          obtain ⟨p, hp⟩ : ∃ p, p = gc L k := ⟨_, rfl⟩
          rw [show L.getD k eC = p from hp.symm] at hd1 hd2 hd3 hd4
          rw [← hp] at hnext hOk hsx h0e
          obtain ⟨f, s, x⟩ := p
          simp only at hd1 hd2 hd3 hd4 hsx hnext hOk
          obtain ⟨m, hm⟩ : ∃ m, m = x.length := ⟨_, rfl⟩
          rw [← hm] at hd3 hsx
          obtain ⟨t, htt⟩ : ∃ t, t = atg L k := ⟨_, rfl⟩
          rw [← htt] at hnext hOk hgb ⊢
          have hgb2 : 0 ≤ t ∧ t ≤ 101200 := by rw [← HF0.out] at hgb; omega
          obtain ⟨N, hN⟩ : ∃ N, N = many ⟨f, s, x⟩ := ⟨_, rfl⟩
          have C1 := hide (fun w ha => l6Many_any f s ai x m ci w hm.symm ha (by omega) hsx.1 N hN)
          have HD4 := hide hd4
          have HNX := hide hnext
          have HST2 := hide hstep
          have HOK := hide hOk
          have HOK0 := hide hok
          have H0E := hide h0e
          have B0 := hide hbel
          have HNN := hide hN
          clear hat hp hm htt hgb hnext hstep hOk hok hd4 hbel hsx h0e hN
          by_cases hgp : GoodP ⟨f, s, x⟩
          · have hNc : N = (cnt s : Int) := by rw [HNN.out]; unfold many; rw [if_pos hgp]
            have hc60 := good_cnt hgp
            simp only at hc60
            obtain ⟨c, hc⟩ : ∃ c, c = cnt s := ⟨_, rfl⟩
            rw [← hc] at hNc hc60 HNX HOK
            have hN0 : ¬ N < 0 := by omega
            have HC := hide hc
            subst hNc
            clear hc
            by_cases hft : f = t
            · subst hft
              by_cases hem : (c : Int) = 0 ∧ (k : Int) < (n : Int) - 1
              · obtain ⟨hem1, hem2⟩ := hem
                obtain rfl := bool_no6 HBB.out (fun h => (HOK.out.1 (HOK0.out h)).2.2 (by omega) (by omega))
                have hc0 : c = 0 := by omega
                subst hc0
                go_wp2_with fail
                refine (C1.out _ (HD4.out.below ((Below.refl _ _).alloc (Nat.le_refl _) _))).mono ?_
                rintro e w1 ⟨rfl, hb1⟩
                have B1 := hide ((B0.out.alloc B0.out.size (.cells #[.int .i64 f, .string s, .slice ai m ci] 50 (0, 0))).trans (hb1.mono (by have := B0.out.size; simp; omega)))
                have G1 : w1.heap[wr.heap.size]? = some (.cells #[.int .i64 f, .string s, .slice ai m ci] 50 (0, 0)) := (hb1.block wr.heap.size (by simp)).trans (blk_new _ _)
                obtain ⟨c0, c1, c2, _, _, _⟩ := blk3 G1
                have k0 := (hb1.cell (p := ⟨w.heap.size, 0, none⟩) (by have := blk_lt g0; simp; omega)).trans (Go.Lib.cell?_alloc_some (.cells #[.int .i64 f, .string s, .slice ai m ci] 50 (0, 0)) g0)
                have k1 := (hb1.cell (p := ⟨w.heap.size, 1, none⟩) (by have := blk_lt g1; simp; omega)).trans (Go.Lib.cell?_alloc_some (.cells #[.int .i64 f, .string s, .slice ai m ci] 50 (0, 0)) g1)
                clear hb1 G1
                go_wp2
                go_ret
                exact ⟨rfl, B1.out⟩
              · have hokk := HOK.out.2 ⟨hgp, rfl, fun h e0 => hem ⟨by omega, by omega⟩⟩
                have HALL := hide (HST2.out hokk)
                clear hokk
                by_cases hk0 : k = 0
                · subst hk0
                  rw [Nat.zero_mul, Nat.add_zero] at hd1 hd2 hd3
                  have hA1 : (gc L 0) = ⟨f, s, x⟩ := H0E.out rfl
                  obtain ⟨bi, hbi⟩ : ∃ bi : Bool, bi = true ↔ f ≤ B ∧ B ≤ f + (c : Int) := ⟨decide (f ≤ B ∧ B ≤ f + (c : Int)), by simp⟩
                  have CI := hide (fun w => l1In_any B f (f + (c : Int)) w bi hbi)
                  have HBI : Hid (bi = true ↔ (gc L 0).f ≤ B ∧ B ≤ (gc L 0).f + (cnt (gc L 0).s : Int)) := by show _ ↔ _; rw [hbi, hA1, HC.out]
                  clear hA1 hbi
                  by_cases hem1 : (c : Int) = 0
                  · have hem2 : ¬ (0 : Int) < (n : Int) - 1 := fun h => hem ⟨hem1, by omega⟩
                    have hc0 : c = 0 := by omega
                    subst hc0
                    rw [show ((0 : Nat) : Int) = 0 from rfl, Int.add_zero] at CI HNX
                    clear hem
                    cases bi with
                    | true =>
                      go_wp2_with fail
                      refine (C1.out _ (HD4.out.below ((Below.refl _ _).alloc (Nat.le_refl _) _))).mono ?_
                      rintro e w1 ⟨rfl, hb1⟩
                      have B1 := hide ((B0.out.alloc B0.out.size (.cells #[.int .i64 f, .string s, .slice ai m ci] 50 (0, 0))).trans (hb1.mono (by have := B0.out.size; simp; omega)))
                      have G1 : w1.heap[wr.heap.size]? = some (.cells #[.int .i64 f, .string s, .slice ai m ci] 50 (0, 0)) := (hb1.block wr.heap.size (by simp)).trans (blk_new _ _)
                      obtain ⟨c0, c1, c2, _, _, _⟩ := blk3 G1
                      have k0 := (hb1.cell (p := ⟨w.heap.size, 0, none⟩) (by have := blk_lt g0; simp; omega)).trans (Go.Lib.cell?_alloc_some (.cells #[.int .i64 f, .string s, .slice ai m ci] 50 (0, 0)) g0)
                      have k1 := (hb1.cell (p := ⟨w.heap.size, 1, none⟩) (by have := blk_lt g1; simp; omega)).trans (Go.Lib.cell?_alloc_some (.cells #[.int .i64 f, .string s, .slice ai m ci] 50 (0, 0)) g1)
                      clear hb1 G1
                      go_wp2_with fail
                      refine (CI.out _).mono ?_
                      rintro e w2 ⟨rfl, rfl⟩
                      go_wp2
                      go_roundw
                      case rel => exact ⟨0 + 1, by omega, by go_num, by rw [HNX.out], HALL.out, fun _ => HBI.out.mp (by first | trivial | rfl), B1.out, k0, k1⟩
                      case measure => simp [intOf]; omega
                    | false =>
                      obtain rfl := bool_no6 HBB.out (fun h => absurd (HBI.out.2 ⟨h.b0, h.b1⟩) (by simp))
                      go_wp2_with fail
                      refine (C1.out _ (HD4.out.below ((Below.refl _ _).alloc (Nat.le_refl _) _))).mono ?_
                      rintro e w1 ⟨rfl, hb1⟩
                      have B1 := hide ((B0.out.alloc B0.out.size (.cells #[.int .i64 f, .string s, .slice ai m ci] 50 (0, 0))).trans (hb1.mono (by have := B0.out.size; simp; omega)))
                      have G1 : w1.heap[wr.heap.size]? = some (.cells #[.int .i64 f, .string s, .slice ai m ci] 50 (0, 0)) := (hb1.block wr.heap.size (by simp)).trans (blk_new _ _)
                      obtain ⟨c0, c1, c2, _, _, _⟩ := blk3 G1
                      have k0 := (hb1.cell (p := ⟨w.heap.size, 0, none⟩) (by have := blk_lt g0; simp; omega)).trans (Go.Lib.cell?_alloc_some (.cells #[.int .i64 f, .string s, .slice ai m ci] 50 (0, 0)) g0)
                      have k1 := (hb1.cell (p := ⟨w.heap.size, 1, none⟩) (by have := blk_lt g1; simp; omega)).trans (Go.Lib.cell?_alloc_some (.cells #[.int .i64 f, .string s, .slice ai m ci] 50 (0, 0)) g1)
                      clear hb1 G1
                      go_wp2_with fail
                      refine (CI.out _).mono ?_
                      rintro e w2 ⟨rfl, rfl⟩
                      go_wp2
                      go_ret
                      exact ⟨rfl, B1.out⟩
                  · clear hem
                    have hc1 : ¬ c = 0 := by omega
                    cases bi with
                    | true =>
                      go_wp2_with fail
                      refine (C1.out _ (HD4.out.below ((Below.refl _ _).alloc (Nat.le_refl _) _))).mono ?_
                      rintro e w1 ⟨rfl, hb1⟩
                      have B1 := hide ((B0.out.alloc B0.out.size (.cells #[.int .i64 f, .string s, .slice ai m ci] 50 (0, 0))).trans (hb1.mono (by have := B0.out.size; simp; omega)))
                      have G1 : w1.heap[wr.heap.size]? = some (.cells #[.int .i64 f, .string s, .slice ai m ci] 50 (0, 0)) := (hb1.block wr.heap.size (by simp)).trans (blk_new _ _)
                      obtain ⟨c0, c1, c2, _, _, _⟩ := blk3 G1
                      have k0 := (hb1.cell (p := ⟨w.heap.size, 0, none⟩) (by have := blk_lt g0; simp; omega)).trans (Go.Lib.cell?_alloc_some (.cells #[.int .i64 f, .string s, .slice ai m ci] 50 (0, 0)) g0)
                      have k1 := (hb1.cell (p := ⟨w.heap.size, 1, none⟩) (by have := blk_lt g1; simp; omega)).trans (Go.Lib.cell?_alloc_some (.cells #[.int .i64 f, .string s, .slice ai m ci] 50 (0, 0)) g1)
                      clear hb1 G1
                      go_wp2_with fail
                      refine (CI.out _).mono ?_
                      rintro e w2 ⟨rfl, rfl⟩
                      go_wp2
                      go_roundw
                      case rel => exact ⟨0 + 1, by omega, by go_num, by rw [HNX.out], HALL.out, fun _ => HBI.out.mp (by first | trivial | rfl), B1.out, k0, k1⟩
                      case measure => simp [intOf]; omega
                    | false =>
                      obtain rfl := bool_no6 HBB.out (fun h => absurd (HBI.out.2 ⟨h.b0, h.b1⟩) (by simp))
                      go_wp2_with fail
                      refine (C1.out _ (HD4.out.below ((Below.refl _ _).alloc (Nat.le_refl _) _))).mono ?_
                      rintro e w1 ⟨rfl, hb1⟩
                      have B1 := hide ((B0.out.alloc B0.out.size (.cells #[.int .i64 f, .string s, .slice ai m ci] 50 (0, 0))).trans (hb1.mono (by have := B0.out.size; simp; omega)))
                      have G1 : w1.heap[wr.heap.size]? = some (.cells #[.int .i64 f, .string s, .slice ai m ci] 50 (0, 0)) := (hb1.block wr.heap.size (by simp)).trans (blk_new _ _)
                      obtain ⟨c0, c1, c2, _, _, _⟩ := blk3 G1
                      have k0 := (hb1.cell (p := ⟨w.heap.size, 0, none⟩) (by have := blk_lt g0; simp; omega)).trans (Go.Lib.cell?_alloc_some (.cells #[.int .i64 f, .string s, .slice ai m ci] 50 (0, 0)) g0)
                      have k1 := (hb1.cell (p := ⟨w.heap.size, 1, none⟩) (by have := blk_lt g1; simp; omega)).trans (Go.Lib.cell?_alloc_some (.cells #[.int .i64 f, .string s, .slice ai m ci] 50 (0, 0)) g1)
                      clear hb1 G1
                      go_wp2_with fail
                      refine (CI.out _).mono ?_
                      rintro e w2 ⟨rfl, rfl⟩
                      go_wp2
                      go_ret
                      exact ⟨rfl, B1.out⟩
                · have hkI : ¬ (k : Int) = 0 := by omega
                  by_cases hem1 : (c : Int) = 0
                  · have hem2 : ¬ (k : Int) < (n : Int) - 1 := fun h => hem ⟨hem1, h⟩
                    have hc0 : c = 0 := by omega
                    subst hc0
                    rw [show ((0 : Nat) : Int) = 0 from rfl, Int.add_zero] at HNX
                    clear hem
                    go_wp2_with fail
                    refine (C1.out _ (HD4.out.below ((Below.refl _ _).alloc (Nat.le_refl _) _))).mono ?_
                    rintro e w1 ⟨rfl, hb1⟩
                    have B1 := hide ((B0.out.alloc B0.out.size (.cells #[.int .i64 f, .string s, .slice ai m ci] 50 (0, 0))).trans (hb1.mono (by have := B0.out.size; simp; omega)))
                    have G1 : w1.heap[wr.heap.size]? = some (.cells #[.int .i64 f, .string s, .slice ai m ci] 50 (0, 0)) := (hb1.block wr.heap.size (by simp)).trans (blk_new _ _)
                    obtain ⟨c0, c1, c2, _, _, _⟩ := blk3 G1
                    have k0 := (hb1.cell (p := ⟨w.heap.size, 0, none⟩) (by have := blk_lt g0; simp; omega)).trans (Go.Lib.cell?_alloc_some (.cells #[.int .i64 f, .string s, .slice ai m ci] 50 (0, 0)) g0)
                    have k1 := (hb1.cell (p := ⟨w.heap.size, 1, none⟩) (by have := blk_lt g1; simp; omega)).trans (Go.Lib.cell?_alloc_some (.cells #[.int .i64 f, .string s, .slice ai m ci] 50 (0, 0)) g1)
                    clear hb1 G1
                    go_wp2
                    go_roundw
                    case rel => exact ⟨k + 1, by omega, by go_num, by rw [HNX.out], HALL.out, fun _ => HB0.out (by omega), B1.out, k0, k1⟩
                    case measure => simp [intOf]; omega
                  · clear hem
                    have hc1 : ¬ c = 0 := by omega
                    go_wp2_with fail
                    refine (C1.out _ (HD4.out.below ((Below.refl _ _).alloc (Nat.le_refl _) _))).mono ?_
                    rintro e w1 ⟨rfl, hb1⟩
                    have B1 := hide ((B0.out.alloc B0.out.size (.cells #[.int .i64 f, .string s, .slice ai m ci] 50 (0, 0))).trans (hb1.mono (by have := B0.out.size; simp; omega)))
                    have G1 : w1.heap[wr.heap.size]? = some (.cells #[.int .i64 f, .string s, .slice ai m ci] 50 (0, 0)) := (hb1.block wr.heap.size (by simp)).trans (blk_new _ _)
                    obtain ⟨c0, c1, c2, _, _, _⟩ := blk3 G1
                    have k0 := (hb1.cell (p := ⟨w.heap.size, 0, none⟩) (by have := blk_lt g0; simp; omega)).trans (Go.Lib.cell?_alloc_some (.cells #[.int .i64 f, .string s, .slice ai m ci] 50 (0, 0)) g0)
                    have k1 := (hb1.cell (p := ⟨w.heap.size, 1, none⟩) (by have := blk_lt g1; simp; omega)).trans (Go.Lib.cell?_alloc_some (.cells #[.int .i64 f, .string s, .slice ai m ci] 50 (0, 0)) g1)
                    clear hb1 G1
                    go_wp2
                    go_roundw
                    case rel => exact ⟨k + 1, by omega, by go_num, by rw [HNX.out], HALL.out, fun _ => HB0.out (by omega), B1.out, k0, k1⟩
                    case measure => simp [intOf]; omega
            · obtain rfl := bool_no6 HBB.out (fun h => hft (HOK.out.1 (HOK0.out h)).2.1)
              go_wp2_with fail
              refine (C1.out _ (HD4.out.below ((Below.refl _ _).alloc (Nat.le_refl _) _))).mono ?_
              rintro e w1 ⟨rfl, hb1⟩
              have B1 := hide ((B0.out.alloc B0.out.size (.cells #[.int .i64 f, .string s, .slice ai m ci] 50 (0, 0))).trans (hb1.mono (by have := B0.out.size; simp; omega)))
              have G1 : w1.heap[wr.heap.size]? = some (.cells #[.int .i64 f, .string s, .slice ai m ci] 50 (0, 0)) := (hb1.block wr.heap.size (by simp)).trans (blk_new _ _)
              obtain ⟨c0, c1, c2, _, _, _⟩ := blk3 G1
              have k0 := (hb1.cell (p := ⟨w.heap.size, 0, none⟩) (by have := blk_lt g0; simp; omega)).trans (Go.Lib.cell?_alloc_some (.cells #[.int .i64 f, .string s, .slice ai m ci] 50 (0, 0)) g0)
              have k1 := (hb1.cell (p := ⟨w.heap.size, 1, none⟩) (by have := blk_lt g1; simp; omega)).trans (Go.Lib.cell?_alloc_some (.cells #[.int .i64 f, .string s, .slice ai m ci] 50 (0, 0)) g1)
              clear hb1 G1
              go_wp2
              go_ret
              exact ⟨rfl, B1.out⟩
          · obtain rfl := bool_no6 HBB.out (fun h => hgp (HOK.out.1 (HOK0.out h)).1)
            have hNc : N = -1 := by rw [HNN.out]; unfold many; rw [if_neg hgp]
            subst hNc
            go_wp2_with fail
            refine (C1.out _ (HD4.out.below ((Below.refl _ _).alloc (Nat.le_refl _) _))).mono ?_
            rintro e w1 ⟨rfl, hb1⟩
            have B1 := hide ((B0.out.alloc B0.out.size (.cells #[.int .i64 f, .string s, .slice ai m ci] 50 (0, 0))).trans (hb1.mono (by have := B0.out.size; simp; omega)))
            have G1 : w1.heap[wr.heap.size]? = some (.cells #[.int .i64 f, .string s, .slice ai m ci] 50 (0, 0)) := (hb1.block wr.heap.size (by simp)).trans (blk_new _ _)
            obtain ⟨c0, c1, c2, _, _, _⟩ := blk3 G1
            have k0 := (hb1.cell (p := ⟨w.heap.size, 0, none⟩) (by have := blk_lt g0; simp; omega)).trans (Go.Lib.cell?_alloc_some (.cells #[.int .i64 f, .string s, .slice ai m ci] 50 (0, 0)) g0)
            have k1 := (hb1.cell (p := ⟨w.heap.size, 1, none⟩) (by have := blk_lt g1; simp; omega)).trans (Go.Lib.cell?_alloc_some (.cells #[.int .i64 f, .string s, .slice ai m ci] 50 (0, 0)) g1)
            clear hb1 G1
            go_wp2
            go_ret
            exact ⟨rfl, B1.out⟩
        · obtain rfl : k = n := by omega
          have hltI : ¬ (k : Int) < (k : Int) := by omega
          have hps : GoodPs L := fun i hi => HK.out i (by rw [← HN.out]; exact hi)
          have hE := E.out hps (HB0.out hn0)
          have hgb := atg_bd L k (fun j hj => (HK.out j hj).1)
          rw [← HF0.out] at hgb
          obtain ⟨t, htt⟩ : ∃ t, t = atg L k := ⟨_, rfl⟩
          rw [← htt] at hE hgb ⊢
          have e2 := (hbel.cell (p := ⟨b, off, none⟩) (blk_lt hk0)).trans hk0
          have hE2 : bb = decide (t - f0 ≤ 60) := by
            have h1 := HBB.out
            rw [hE] at h1
            cases bb with
            | true => exact (decide_eq_true (h1.1 rfl)).symm
            | false =>
              refine (decide_eq_false (fun h => ?_)).symm
              exact absurd (h1.2 h) (by simp)
          subst hE2
          have HBEL := hide hbel
          clear hbel hps hE htt
          go_wp2
          go_ret
          exact ⟨rfl, HBEL.out⟩
    · have CF := hide (fun w => l1In_any f0 0 100000 w false (by simp; omega))
      obtain rfl := bool_no6 HBB.out (fun h => hf (by rw [HF0.out]; exact ⟨h.f0, h.f1⟩))
      go_enter Tryd.func38, Tryd.ntmps38
      go_wp2_with fail
      refine (CL.out _).mono ?_
      rintro e w1 ⟨rfl, rfl⟩
      go_wp2_with fail
      refine (CF.out _).mono ?_
      rintro e w1 ⟨rfl, rfl⟩
      go_wp2
      go_ret
      exact ⟨rfl, (Below.refl _ _).alloc (Nat.le_refl _) _⟩
  · have CL := hide (fun w => l1In_any (n : Int) 1 20 w false (by simp; omega))
    obtain rfl := bool_no6 hbb (fun h => h1 (by have := h.one; have := h.many; omega))
    clear hbb hs hn hsz
    go_enter Tryd.func38, Tryd.ntmps38
    go_wp2_with fail
    refine (CL.out _).mono ?_
    rintro e w1 ⟨rfl, rfl⟩
    go_wp2
    go_ret
    exact ⟨rfl, (Below.refl _ _).alloc (Nat.le_refl _) _⟩
end Go.Proofs.YtbcljhafdpnjbabDoor.L6

namespace Go.Proofs.YtbcljhafdpnjbabDoor.L6
open Go.RowKit L1
set_option linter.unusedVariables false

set_option maxRecDepth 100000 in
set_option maxHeartbeats 1000000 in
theorem l6End_any (a : Option Addr) (L : List Pc) (n cap : Nat) (B : Int) (w : World) (hn : L.length = n) (hs : SlC w a L) (h1 : 1 ≤ n) (h20 : n ≤ 20) (hg : GoodP (gc L (n - 1))) (hf : 0 ≤ (gc L (n - 1)).f ∧ (gc L (n - 1)).f ≤ 1000000) :
    Calls Tryd.prog 41 #[.agg #[.slice a n cap, .int .i64 B]] w fun e w' => e = .returned (.int .i64 (lastEnd L n)) ∧ Below w.heap.size w w' := by
  obtain ⟨m, hm⟩ : ∃ m, m = n - 1 := ⟨_, rfl⟩
  have hnm : (n : Int) - 1 = (m : Int) := by omega
  have hmn : (m : Int) < (n : Int) := by omega
  have hm0 : (0 : Int) ≤ (m : Int) := by omega
  obtain ⟨b, off, rfl, ai, ci, hat⟩ := hs m (by rw [hn]; omega)
  unfold lastEnd
  rw [← hm] at hg hf ⊢
  have hc60 := good_cnt hg
  have hs60 := hg.1
  have hx : (gc L m).x.length ≤ 1048576 := by
    rw [hg.2.2]
    unfold ix
    rw [ixk_len]
    omega
  have hd1 := hat.f
  have hd2 := hat.s
  have hd3 := hat.x
  have hd4 := hat.l
  have hN : many (gc L m) = (cnt (gc L m).s : Int) := by unfold many; rw [if_pos hg]
  obtain ⟨p, hp⟩ : ∃ p, p = gc L m := ⟨_, rfl⟩
  rw [show L.getD m eC = p from hp.symm] at hd1 hd2 hd3 hd4
  rw [← hp] at hf hc60 hs60 hx hN ⊢
  obtain ⟨f, s, x⟩ := p
  simp only at hd1 hd2 hd3 hd4 hf hc60 hs60 hx hN ⊢
  obtain ⟨k, hk⟩ : ∃ k, k = x.length := ⟨_, rfl⟩
  rw [← hk] at hd3 hx
  obtain ⟨c, hc⟩ : ∃ c, c = cnt s := ⟨_, rfl⟩
  rw [← hc] at hc60 hN ⊢
  have C := hide (fun wx (hb : Below w.heap.size w wx) => l6Many_any f s ai x k ci wx hk.symm (hd4.below hb) (by omega) (by omega) (c : Int) hN.symm)
  have hwr : IntKind.i64.wrap (f + (c : Int)) = f + (c : Int) := wrap6 (by omega) (by omega)
  obtain ⟨w0, hw0⟩ : ∃ w0, w0 = w.alloc (.cells #[.slice (some ⟨b, off, none⟩) n cap, .int .i64 B] 25 (0, 0)) := ⟨_, rfl⟩
  have e1 := Go.Lib.cell?_alloc_some (.cells #[.slice (some ⟨b, off, none⟩) n cap, .int .i64 B] 25 (0, 0)) hd1
  have e2 := Go.Lib.cell?_alloc_some (.cells #[.slice (some ⟨b, off, none⟩) n cap, .int .i64 B] 25 (0, 0)) hd2
  have e3 := Go.Lib.cell?_alloc_some (.cells #[.slice (some ⟨b, off, none⟩) n cap, .int .i64 B] 25 (0, 0)) hd3
  clear hat hp hk hd4 hc hN hg hn hs hm
  go_enter Tryd.func41, Tryd.ntmps41
  go_wp2
  obtain ⟨w1, hw1⟩ : ∃ w1, w1 = (w.alloc (.cells #[.slice (some ⟨b, off, none⟩) n cap, .int .i64 B] 25 (0, 0))).alloc (.cells #[.int .i64 f, .string s, .slice ai k ci] 50 (0, 0)) := ⟨_, rfl⟩
  have B1 : Below w.heap.size w w1 := by rw [hw1]; exact ((Below.refl _ _).alloc (Nat.le_refl _) _).alloc (by simp) _
  obtain ⟨c0, c1, c2, _, _, _⟩ := blk3 (show w1.heap[w.heap.size + 1]? = some (.cells #[.int .i64 f, .string s, .slice ai k ci] 50 (0, 0)) by rw [hw1]; have := blk_new (w.alloc (.cells #[.slice (some ⟨b, off, none⟩) n cap, .int .i64 B] 25 (0, 0))) (.cells #[.int .i64 f, .string s, .slice ai k ci] 50 (0, 0)); rw [World.size_alloc] at this; exact this)
  have HB1 := hide B1
  rw [← hw1]
  clear B1 hw1 hw0 e1 e2 e3
  go_region_held3 (fun wx => (wx.cell? ⟨w.heap.size + 1, 0, none⟩ = some (.int .i64 f) ∧ wx.cell? ⟨w.heap.size + 1, 1, none⟩ = some (.string s) ∧ wx.cell? ⟨w.heap.size + 1, 2, none⟩ = some (.slice ai k ci)) ∧ Below w1.heap.size w1 wx) (first | exact ⟨⟨c0, c1, c2⟩, (Below.refl _ _).drew⟩ | exact keep3 (by assumption) (by assumption) (Nat.le_refl _)) ((go_at_call 64; refine (C.out _ (HB1.out.trans ((by first | exact And.right (by assumption) | exact (Below.refl _ _).drew | exact Below.refl _ _ : Below w1.heap.size w1 _).mono HB1.out.size))).mono ?_; rintro e w2 ⟨rfl, hb⟩))
  rename_i hHeld
  have B2 := hide (HB1.out.trans (hHeld.2.mono HB1.out.size))
  clear hHeld
  go_wp2
  go_ret
  exact ⟨rfl, B2.out⟩

/-- Of a good log, as spec.l6End asks it. -/
theorem l6End_good (a : Option Addr) (L : List Pc) (n cap : Nat) (B : Int) (w : World) (hn : L.length = n) (hs : SlC w a L) (hg : GoodG L B) (B' : Int) :
    Calls Tryd.prog 41 #[.agg #[.slice a n cap, .int .i64 B']] w fun e w' => e = .returned (.int .i64 (lastEnd L n)) ∧ Below w.heap.size w w' := by
  have h1 := hg.one
  have h20 := hg.many
  have hk := hg.ps (n - 1) (by omega)
  have hb := atg_bd L (n - 1) (fun j hj => (hg.ps j (by omega)).1)
  have hf0 := hg.f0
  have hf1 := hg.f1
  exact l6End_any a L n cap B' w hn hs (by omega) (by omega) hk.1 (by rw [hk.2.1]; omega)
end Go.Proofs.YtbcljhafdpnjbabDoor.L6

namespace Go.Proofs.YtbcljhafdpnjbabDoor.L6
open Go.RowKit L1
set_option linter.unusedVariables false

set_option maxRecDepth 100000 in
set_option maxHeartbeats 2000000 in
theorem l6Bytes_any (f : Int) (s : ByteArray) (ai : Option Addr) (xl ci : Nat) (many : Int) (w : World) (hs : s.size ≤ 60) (hm0 : 0 ≤ many) (hm1 : many ≤ 2000000) (k : Nat) (hk : k = if many < (cnt s : Int) then pl s 0 many.toNat else wh s) :
    Calls Tryd.prog 70 #[.agg #[.int .i64 f, .string s, .slice ai xl ci], .int .i64 many] w fun e w' => e = .returned (.string (s.extract 0 k)) ∧ Below w.heap.size w w' := by
  have C1 := hide (fun w => l6Starts_any s w (by omega))
  have hks : k ≤ s.size := by rw [hk]; split; exact pl_le s _; exact wh_le s
  have q := fun w => slice_to w s k hks
  have hcl := cnt_le s
  obtain ⟨m, hm⟩ : ∃ m, m = cnt s := ⟨_, rfl⟩
  rw [← hm] at hk hcl C1
  obtain ⟨t, rfl⟩ : ∃ t : Nat, many = (t : Int) := ⟨many.toNat, by omega⟩
  have HK := hide hk
  have HM := hide hm
  clear hk hm
  obtain ⟨y, hy⟩ : ∃ y, y = s.extract 0 k := ⟨_, rfl⟩
  rw [← hy] at q ⊢
  clear hy
  go_enter Tryd.func70, Tryd.ntmps70
  go_wp2_with fail
  refine (C1.out _).mono ?_
  rintro e w1 ⟨v, rfl, ho, hb⟩
  obtain ⟨va, vc, rfl, hsl, _⟩ := own_form ho
  obtain ⟨p0, p1, p2, _, _, _⟩ := blk3 ((hb.block w.heap.size (by simp)).trans (blk_new _ _))
  have B1 := hide (((Below.refl w.heap.size w).alloc (Nat.le_refl _) (.cells #[.int .i64 f, .string s, .slice ai xl ci] 50 (0, 0))).trans (hb.mono (by simp)))
  clear hb ho
  by_cases hlt : (t : Int) < (m : Int)
  · have hstl : (st s).length = m := by rw [HM.out]; exact stk_len s _
    obtain ⟨b, off, rfl, hc⟩ := hsl t (by rw [hstl]; omega)
    have hkt : k = pl s 0 t := by
      have := HK.out
      rw [if_pos hlt] at this
      simpa using this
    rw [stk_get s _ t (by have := HM.out; omega), ← hkt] at hc
    clear hkt hsl hstl
    go_wp2
    go_ret
    exact ⟨rfl, B1.out⟩
  · have hkt : (wh s : Nat) = k := by
      have := HK.out
      rw [if_neg hlt] at this
      exact this.symm
    rw [hkt]
    clear hkt hsl
    go_wp2
    go_ret
    exact ⟨rfl, B1.out⟩

/-- One round of l6Cut, by the list. -/
theorem cut_round {L : List Pc} {B o : Int} (h : CutOk L B o) (k : Nat) (hk : k ≤ cutK L o) : (gc L k).f ≤ o ∧ (k ≠ 0 → (gc L k).f < o) ∧ (cutL L o).getD k eC = ⟨(gc L k).f, (gc L k).s.extract 0 (if o - (gc L k).f < (cnt (gc L k).s : Int) then pl (gc L k).s 0 (o - (gc L k).f).toNat else wh (gc L k).s), ix ((gc L k).s.extract 0 (if o - (gc L k).f < (cnt (gc L k).s : Int) then pl (gc L k).s 0 (o - (gc L k).f).toNat else wh (gc L k).s))⟩ := by
  obtain ⟨hg, h1, h2⟩ := h
  have hone := hg.one
  have hK := cutK_lt (o := o) hone
  obtain ⟨s1, s2⟩ := cut_spot hg h1 h2
  by_cases e : k = cutK L o
  · subst e
    refine ⟨s1, fun h0 => ?_, ?_⟩
    · rcases pcAt_at L (o - 1) (L.length - 1) with e | e
      · exact absurd e h0
      · have e' : (gc L (cutK L o)).f ≤ o - 1 := e
        omega
    · rw [show (cutL L o).getD (cutK L o) eC = cutP (gc L (cutK L o)) o by unfold cutL; simp [List.getD, Nat.min_eq_left (Nat.le_of_lt hK)]]
      unfold cutP
      split
      · rfl
      · rename_i hlt
        rw [show (o - (gc L (cutK L o)).f).toNat = cnt (gc L (cutK L o)).s by omega]
        rfl
  · have hlt : k < cutK L o := by omega
    obtain ⟨a1, a2⟩ := cut_ahead hg k hlt
    refine ⟨by omega, fun _ => a1, ?_⟩
    rw [if_neg (by omega)]
    have hp := (hg.ps k (by omega)).1
    rw [show (cutL L o).getD k eC = gc L k by unfold cutL; simp [gc, List.getD, List.getElem?_append_left (show k < (L.take (cutK L o)).length by simp; omega), hlt]]
    have hw : (gc L k).s.extract 0 (wh (gc L k).s) = (gc L k).s := by
      rw [hp.2.1]
      apply ByteArray.ext
      simp
    rw [hw, ← hp.2.2]
theorem cut_past {L : List Pc} {B o : Int} (h : CutOk L B o) (k : Nat) (hk : cutK L o < k) (hl : k < L.length) : ¬ (gc L k).f < o := by
  have := cut_behind h.1 k hk hl
  omega
/-- What stands ahead of a round of l6Cut. -/
def CutInv (w : World) (n K : Nat) (B : Int) (C : List Pc) (k : Nat) (wr : World) : Prop :=
  ∃ (nn : Nat) (M : List PV) (a1 : Option Addr) (c1 : Nat), k ≤ n ∧ nn = min k (K + 1) ∧ Hid (OwC wr (w.heap.size + 3) (.slice a1 nn c1) nn M) ∧ Hid (pcs M = C.take k) ∧ Hid (wr.heap[w.heap.size + 2]? = some (.cells #[.slice a1 nn c1, .int .i64 B] 25 (0, 0))) ∧ Hid (wr.heap[w.heap.size + 1]? = some (.cells #[.slice none 0 0, .int .i64 0] 25 (0, 0))) ∧ Below w.heap.size w wr

set_option maxRecDepth 100000 in
set_option maxHeartbeats 1000000 in
theorem l6Cut_any (a : Option Addr) (L : List Pc) (n cap : Nat) (B o : Int) (w : World) (hn : L.length = n) (hs : SlC w a L) (hc : CutOk L B o) :
    Calls Tryd.prog 52 #[.agg #[.slice a n cap, .int .i64 B], .int .i64 o] w fun e w' => ∃ a' c', e = .returned (.agg #[.slice a' (cutL L o).length c', .int .i64 B]) ∧ ∃ M, pcs M = cutL L o ∧ OwC w' w.heap.size (.slice a' (cutL L o).length c') (cutL L o).length M ∧ Below w.heap.size w w' := by
  obtain ⟨i0, hi, hz0, hz1, hz2⟩ := info_parts info_piece
  have hone := hc.1.one
  have hn20 : n ≤ 20 := by have := hc.1.many; omega
  have hclen := cutL_len (o := o) hone
  have hKn0 := cutK_lt (o := o) hone
  have hob : 0 ≤ o ∧ o ≤ 100060 := by
    have h1 := hc.1.end0
    have h2 := hc.1.f0
    have h3 := hc.2.1
    have h4 := hc.2.2
    have h5 := hc.1.b0
    omega
  have HR := hide (cut_round hc)
  have HPA := hide (cut_past hc)
  have HF : Hid (∀ k, k < L.length → 0 ≤ (gc L k).f ∧ (gc L k).s.size ≤ 60) := hide (fun k hk => by
    have h1 := (hc.1.ps k hk).2.1
    have h2 := (atg_bd L k (fun j hj => (hc.1.ps j (by omega)).1)).1
    have h3 := hc.1.f0
    exact ⟨by omega, (hc.1.ps k hk).1.1⟩)
  obtain ⟨C, hC⟩ : ∃ C, C = cutL L o := ⟨_, rfl⟩
  obtain ⟨K, hK⟩ : ∃ K, K = cutK L o := ⟨_, rfl⟩
  rw [← hC] at HR hclen ⊢
  rw [← hK] at HR HPA hclen hKn0
  rw [hn] at HF HPA hKn0
  rw [hclen]
  have HS := hide hs
  have HN := hide hn
  have HCL := hide hclen
  clear hs hn hc hone hclen hC hK
  go_enter Tryd.func52, Tryd.ntmps52
  go_wp2
  go_loopw [14] (fun i wr => ∃ k : Nat, i = .int .i64 k ∧ CutInv w n K B C k wr) (fun i _ => n - (intOf i).toNat)
  case atStart =>
    obtain ⟨b3, b2, b1, bz⟩ := blk_three w (.cells #[.slice a n cap, .int .i64 B] 25 (0, 0)) (.cells #[.slice none 0 0, .int .i64 0] 25 (0, 0)) (.cells #[.slice none 0 0, .int .i64 B] 25 (0, 0))
    exact ⟨0, rfl, 0, [], none, 0, Nat.zero_le _, by simp, ⟨rfl, World.ownsRow_nil _ _ _ _, fun i hi => absurd hi (Nat.not_lt_zero _), fun i j _ hj => absurd hj (Nat.not_lt_zero _)⟩, rfl, b3, b2, (((Below.refl _ _).alloc (Nat.le_refl _) _).alloc (by simp) _).alloc (by simp; omega) _⟩
  case round =>
    obtain ⟨k, rfl, nn, M, a1, c1, hk, hnn, HO, HP, HB2, HB1, hbel⟩ := hrel
    by_cases hlt : k < n
    · obtain ⟨b, off, rfl, ai, ci, hat⟩ := HS.out.below hbel k (by rw [HN.out]; exact hlt)
      have hltI : (k : Int) < (n : Int) := by omega
      obtain ⟨hf0, hs60⟩ := HF.out k hlt
      have HRk := HR.out k
      have HPk := HPA.out k
      have d1 := hat.f
      have d2 := hat.s
      have d3 := hat.x
      have d4 := hat.l
      rw [show L.getD k eC = gc L k from rfl] at d1 d2 d3 d4
      obtain ⟨p, hp⟩ : ∃ p, p = gc L k := ⟨_, rfl⟩
      rw [← hp] at d1 d2 d3 d4 hf0 hs60 HRk HPk
      obtain ⟨f, s, x⟩ := p
      simp only at d1 d2 d3 d4 hf0 hs60 HRk HPk
      obtain ⟨m, hm⟩ : ∃ m, m = x.length := ⟨_, rfl⟩
      rw [← hm] at d3
      have hsz : w.heap.size + 3 ≤ wr.heap.size := (Array.getElem?_eq_some_iff.1 HB2.out).1
      have BB := hide hbel
      clear hat d4 hp hm hbel
      by_cases hkK : k ≤ K
      · obtain rfl : nn = k := by omega
        obtain ⟨hfo, hfo2, hgc⟩ := HRk hkK
        clear HRk HPk
        obtain ⟨t, hot⟩ : ∃ t : Nat, o - f = (t : Int) := ⟨(o - f).toNat, by omega⟩
        rw [hot] at hgc
        obtain ⟨kk, hkk⟩ : ∃ kk, kk = if (t : Int) < (cnt s : Int) then pl s 0 (t : Int).toNat else wh s := ⟨_, rfl⟩
        rw [← hkk] at hgc
        have CB0 := hide (fun wx => l6Bytes_any f s ai m ci (t : Int) wx hs60 (by omega) (by omega) kk hkk)
        obtain ⟨y, hy⟩ : ∃ y, y = s.extract 0 kk := ⟨_, rfl⟩
        rw [← hy] at hgc CB0
        have hys : y.size ≤ 60 := by rw [hy]; simp; omega
        have hwr : IntKind.i64.wrap (o - f) = (t : Int) := by rw [hot]; exact wrap6 (by omega) (by omega)
        have hwt : IntKind.i64.wrap (t : Int) = (t : Int) := wrap6 (by omega) (by omega)
        have HGC := hide hgc
        obtain ⟨N, hN⟩ : ∃ N, N = (ix y).length := ⟨_, rfl⟩
        have HNN := hide hN
        clear hgc hkk hy
        generalize hV : wr.alloc (.cells #[.int .i64 f, .string s, .slice ai m ci] 50 (0, 0)) = V
        have BV : Below wr.heap.size wr V := by rw [← hV]; exact (Below.refl _ _).alloc (Nat.le_refl _) _
        have GP : Hid (V.heap[wr.heap.size]? = some (.cells #[.int .i64 f, .string s, .slice ai m ci] 50 (0, 0))) := by show _ = _; rw [← hV]; exact blk_new _ _
        have hVs : wr.heap.size < V.heap.size := (Array.getElem?_eq_some_iff.1 GP.out).1
        have GOV : Hid (V.heap[w.heap.size + 2]? = some (.cells #[.slice a1 nn c1, .int .i64 B] 25 (0, 0))) := (BV.block _ (by omega)).trans HB2.out
        have GRV : Hid (V.heap[w.heap.size + 1]? = some (.cells #[.slice none 0 0, .int .i64 0] 25 (0, 0))) := (BV.block _ (by omega)).trans HB1.out
        have BBV := hide (BB.out.trans (BV.mono BB.out.size))
        have HOV := hide (HO.out.below BV)
        have HROW := hide HOV.out.row
        have HV := hide hV
        have hbase : w.heap.size + 3 ≤ V.heap.size := by omega
        have hk20 : nn ≤ 20 := by omega
        have cells : Hid (∀ wx, Below V.heap.size V wx → wx.cell? ⟨w.heap.size + 2, 0, none⟩ = some (.slice a1 nn c1) ∧ wx.cell? ⟨wr.heap.size, 0, none⟩ = some (.int .i64 f) ∧ wx.cell? ⟨wr.heap.size, 1, none⟩ = some (.string s) ∧ wx.cell? ⟨wr.heap.size, 2, none⟩ = some (.slice ai m ci)) := hide (fun wx hb => by
          obtain ⟨y0, _, _, _⟩ := blkp ((hb.block (w.heap.size + 2) (by omega)).trans GOV.out)
          obtain ⟨b0, b1, b2, _, _, _⟩ := blk3 ((hb.block wr.heap.size hVs).trans GP.out)
          exact ⟨y0, b0, b1, b2⟩)
        have CB : Hid (∀ wx, Below V.heap.size V wx → Calls Tryd.prog 70 #[.agg #[.int .i64 f, .string s, .slice ai m ci], .int .i64 (t : Int)] wx fun e w2 => e = .returned (.string y) ∧ Below V.heap.size V w2 ∧ w2.cell? ⟨w.heap.size + 2, 0, none⟩ = some (.slice a1 nn c1) ∧ w2.cell? ⟨wr.heap.size, 0, none⟩ = some (.int .i64 f) ∧ w2.cell? ⟨wr.heap.size, 1, none⟩ = some (.string s) ∧ w2.cell? ⟨wr.heap.size, 2, none⟩ = some (.slice ai m ci)) := hide (fun wx hb => by
          refine (CB0.out wx).mono ?_
          rintro e w2 ⟨rfl, hb2⟩
          have hb3 := hb.trans (hb2.mono hb.size)
          exact ⟨rfl, hb3, cells.out w2 hb3⟩)
        have CP : Hid (∀ wx, Below V.heap.size V wx → Calls Tryd.prog 56 #[.int .i64 f, .string y] wx fun e w2 => ∃ a2 q2, e = .returned (.agg #[.int .i64 f, .string y, .slice a2 N q2]) ∧ (w2.ownsRow V.heap.size 3 1 (.slice a2 N q2) N ((ix y).map (Value.int .i64)) ∧ Below V.heap.size V w2) ∧ (w2.cell? ⟨w.heap.size + 2, 0, none⟩ = some (.slice a1 nn c1) ∧ w2.cell? ⟨wr.heap.size, 0, none⟩ = some (.int .i64 f) ∧ w2.cell? ⟨wr.heap.size, 1, none⟩ = some (.string s) ∧ w2.cell? ⟨wr.heap.size, 2, none⟩ = some (.slice ai m ci)) ∧ ∀ ob, (w2.alloc ob).cell? ⟨w.heap.size + 2, 0, none⟩ = some (.slice a1 nn c1) ∧ (w2.alloc ob).cell? ⟨wr.heap.size, 0, none⟩ = some (.int .i64 f) ∧ (w2.alloc ob).cell? ⟨wr.heap.size, 1, none⟩ = some (.string s) ∧ (w2.alloc ob).cell? ⟨wr.heap.size, 2, none⟩ = some (.slice ai m ci)) := hide (fun wx hb => by
          refine (l6Piece_any f y wx (by omega)).mono ?_
          rintro e w2 ⟨v2, rfl, ho2, hb2⟩
          have hb3 := hb.trans (hb2.mono hb.size)
          rw [← hN] at ho2
          obtain ⟨a2, q2, rfl, _, _⟩ := own_form ho2
          exact ⟨a2, q2, rfl, ⟨own_baseC ho2 hb.size, hb3⟩, cells.out w2 hb3, fun ob => cells.out _ (hb3.alloc hb3.size ob)⟩)
        have PP : Hid (∀ w3 a2 q2 g4 c4 w4, (w3.ownsRow V.heap.size 3 1 (.slice a2 N q2) N ((ix y).map (Value.int .i64)) ∧ Below V.heap.size V w3) → w4.ownsRow (w.heap.size + 3) 50 3 (.slice (some ⟨g4, 0, none⟩) (nn + 1) c4) (nn + 1) (flatC M ++ [.int .i64 f, .string y, .slice a2 N q2]) → (w3.alloc (.cells #[.int .i64 f, .string y, .slice a2 N q2] 50 (0, 0))).grownBy w4 (Value.slice a1 nn c1).ownBlock → CutInv w n K B C (nn + 1) (w4.setCell ⟨w.heap.size + 2, 0, none⟩ (.slice (some ⟨g4, 0, none⟩) (nn + 1) c4)) ∧ w4.cell? ⟨w.heap.size + 2, 0, none⟩ = some (.slice a1 nn c1) ∧ w4.frozen? ⟨w.heap.size + 2, 0, none⟩ = false ∧ (w4.cell? ⟨wr.heap.size, 0, none⟩ = some (.int .i64 f) ∧ w4.cell? ⟨wr.heap.size, 1, none⟩ = some (.string s) ∧ w4.cell? ⟨wr.heap.size, 2, none⟩ = some (.slice ai m ci)) ∧ ∀ u, (w4.setCell ⟨w.heap.size + 2, 0, none⟩ u).cell? ⟨wr.heap.size, 0, none⟩ = some (.int .i64 f) ∧ (w4.setCell ⟨w.heap.size + 2, 0, none⟩ u).cell? ⟨wr.heap.size, 1, none⟩ = some (.string s) ∧ (w4.setCell ⟨w.heap.size + 2, 0, none⟩ u).cell? ⟨wr.heap.size, 2, none⟩ = some (.slice ai m ci)) := by
          intro w3 a2 q2 g4 c4 w4 h h4 hg4
          have hs9 := h.2.size
          have hal : Below w3.heap.size w3 (w3.alloc (.cells #[.int .i64 f, .string y, .slice a2 N q2] 50 (0, 0))) := (Below.refl _ _).alloc (Nat.le_refl _) _
          have hba := h.2.trans (hal.mono hs9)
          have nob : ∀ q, q < w.heap.size + 3 → some q ≠ (Value.slice a1 nn c1).ownBlock := fun q hq e => by
            have := (own_ltC HROW.out q e.symm).1
            omega
          have hblk : ∀ q, q < w.heap.size + 3 → w4.heap[q]? = V.heap[q]? := fun q hq => (hg4.block q (by simp; omega) (nob q hq)).trans (hba.block q (by omega))
          have hGo := (hblk (w.heap.size + 2) (by omega)).trans GOV.out
          have O4 := ((HOV.out.below h.2).below hal).more (w' := w4) (p := ⟨f, y, ix y⟩) (u := .slice a2 N q2) (by show World.ownsRow _ _ _ _ _ (ix y).length _; rw [← HNN.out]; exact own_baseC (own_belowC h.1 hal) hbase) (fun i hi bb hbb e => by
            have h1 := (own_ltC h.1 bb hbb).1
            have h2 := (own_ltC (HOV.out.idx i hi) bb e).2
            omega) hg4 h4
          have B9 : Below w.heap.size w w4 := ⟨hg4.os.trans (hba.os.trans BBV.out.os), hg4.tape.trans (hba.tape.trans BBV.out.tape), hg4.output.trans (hba.output.trans BBV.out.output), by have := hg4.size; simp at this; omega, fun q hq => (hblk q (by omega)).trans (BBV.out.block q (by omega))⟩
          obtain ⟨r0, _, r2, _⟩ := blkp hGo
          have hGp : w4.heap[wr.heap.size]? = some (.cells #[.int .i64 f, .string s, .slice ai m ci] 50 (0, 0)) := (hg4.block wr.heap.size (by simp; omega) (fun e => by
            have := (own_ltC HO.out.row wr.heap.size e.symm).2
            omega)).trans ((hba.block wr.heap.size hVs).trans GP.out)
          obtain ⟨s0, s1, s2, _, _, _⟩ := blk3 hGp
          have hGq : ∀ u, (w4.setCell ⟨w.heap.size + 2, 0, none⟩ u).cell? ⟨wr.heap.size, 0, none⟩ = some (.int .i64 f) ∧ (w4.setCell ⟨w.heap.size + 2, 0, none⟩ u).cell? ⟨wr.heap.size, 1, none⟩ = some (.string s) ∧ (w4.setCell ⟨w.heap.size + 2, 0, none⟩ u).cell? ⟨wr.heap.size, 2, none⟩ = some (.slice ai m ci) := fun u => by
            obtain ⟨t0, t1, t2, _, _, _⟩ := blk3 (w := w4.setCell ⟨w.heap.size + 2, 0, none⟩ u) ((Below.heap_setCell _ _ _ _ (show wr.heap.size ≠ w.heap.size + 2 by omega)).trans hGp)
            exact ⟨t0, t1, t2⟩
          refine ⟨⟨nn + 1, _, some ⟨g4, 0, none⟩, c4, by omega, by omega, O4.setBC hGo, ?_, ?_, ?_, B9.setCell (p := ⟨w.heap.size + 2, 0, none⟩) (by show w.heap.size ≤ w.heap.size + 2; omega) _⟩, r0, r2, ⟨s0, s1, s2⟩, hGq⟩
          · show pcs (M ++ [_]) = _
            have hkl : nn < C.length := by rw [HCL.out]; omega
            have e1 : C[nn]'hkl = ⟨f, y, ix y⟩ := by
              have := HGC.out
              simpa [List.getD, List.getElem?_eq_getElem hkl] using this
            rw [List.take_succ_eq_append_getElem hkl, e1, ← HP.out]
            show List.map _ _ = _
            rw [List.map_append]
            rfl
          · show (w4.setCell _ _).heap[_]? = _
            rw [setCell_eq_setRow w4 (w.heap.size + 2) 0 _ 25 (0, 0) _ hGo, setRow_heap w4 (w.heap.size + 2) _ _ 25 _ hGo]
            rfl
          · exact (Below.heap_setCell _ _ _ _ (show w.heap.size + 1 ≠ w.heap.size + 2 by omega)).trans ((hblk (w.heap.size + 1) (by omega)).trans GRV.out)
        obtain ⟨o0, p0, p1, p2⟩ := cells.out V (Below.refl _ _)
        have hle : ((nn : Int) + 1) = ((nn + 1 : Nat) : Int) := by omega
        have hwn : IntKind.i64.wrap ((nn : Int) + 1) = ((nn + 1 : Nat) : Int) := by rw [hle]; exact wrap6 (by omega) (by omega)
        clear hN CB0 cells hV BV hle hnn
        by_cases hk0 : nn = 0
        · have hkb : ((nn : Int) == 0) = true := by simp; omega
          clear hk0
          go_upto_region 6 with (first | (rw [HV.out]) | fail)
          first | rw [HV.out] | skip
          refine wp_region_held_drew (S := (fun wx => wx.cell? ⟨wr.heap.size, 0, none⟩ = some (.int .i64 f) ∧ wx.cell? ⟨wr.heap.size, 1, none⟩ = some (.string s) ∧ wx.cell? ⟨wr.heap.size, 2, none⟩ = some (.slice ai m ci))) (by kernel_rfl) ⟨p0, p1, p2⟩ (fun hHeld => ?_)
          refine wpAnyH_take (i := 0) (v := ?v1) rfl (by kernel_rfl) (by kernel_rfl) (by kernel_rfl) (fun _ _ _ h => h) (Or.inl ⟨by rfl, ?y1⟩) (by assumption) ?r1
          case y1 => (intro w hSw; (try dsimp only at hSw); go_simp; try (with_reducible rfl))
          simp only [List.getElem_toArray, List.getElem_cons_zero, Act.put, List.setIfInBounds_toArray, List.set_cons_zero, List.set_cons_succ]
          refine wpAnyH_take (i := 2) (v := ?v2) rfl (by kernel_rfl) (by kernel_rfl) (by kernel_rfl) (fun _ _ _ h => h) (Or.inl ⟨by rfl, ?y2⟩) (by assumption) ?r2
          case y2 => (intro w hSw; (try dsimp only at hSw); go_simp; try (with_reducible rfl))
          simp only [List.getElem_toArray, List.getElem_cons_succ, List.getElem_cons_zero, Act.put, List.setIfInBounds_toArray, List.set_cons_zero, List.set_cons_succ]
          refine wpAnyH_take (i := 3) (v := ?v3) rfl (by kernel_rfl) (by kernel_rfl) (by kernel_rfl) (fun _ _ _ h => h) (Or.inl ⟨by rfl, ?y3⟩) (by assumption) ?r3
          case y3 => (intro w hSw; (try dsimp only at hSw); go_simp; try (with_reducible rfl))
          simp only [List.getElem_toArray, List.getElem_cons_succ, List.getElem_cons_zero, Act.put, List.setIfInBounds_toArray, List.set_cons_zero, List.set_cons_succ]
          refine wpAnyH_take (i := 4) (v := ?v4) rfl (by kernel_rfl) (by kernel_rfl) (by kernel_rfl) (fun _ _ _ h => h) (Or.inl ⟨by rfl, ?y4⟩) (by assumption) ?r4
          case y4 => (intro w hSw; (try dsimp only at hSw); go_simp; try (with_reducible rfl))
          simp only [List.getElem_toArray, List.getElem_cons_succ, List.getElem_cons_zero, Act.put, List.setIfInBounds_toArray, List.set_cons_zero, List.set_cons_succ]
          refine wpAnyH_take (i := 5) (v := ?v5) rfl (by kernel_rfl) (by kernel_rfl) (by kernel_rfl) (fun _ _ _ h => h) (Or.inl ⟨by rfl, ?y5⟩) (by assumption) ?r5
          case y5 => (intro w hSw; (try dsimp only at hSw); go_simp; try (with_reducible rfl))
          simp only [List.getElem_toArray, List.getElem_cons_succ, List.getElem_cons_zero, Act.put, List.setIfInBounds_toArray, List.set_cons_zero, List.set_cons_succ]
          refine wpAnyH_take (i := 6) (v := ?v6) rfl (by kernel_rfl) (by kernel_rfl) (by kernel_rfl) (fun _ _ _ h => h) (Or.inl ⟨by rfl, ?y6⟩) (by assumption) ?r6
          case y6 => (intro w hSw; (try dsimp only at hSw); go_simp; try (with_reducible rfl))
          simp only [List.getElem_toArray, List.getElem_cons_succ, List.getElem_cons_zero, Act.put, List.setIfInBounds_toArray, List.set_cons_zero, List.set_cons_succ]
          refine wpAnyH_take (i := 7) (v := ?v7) rfl (by kernel_rfl) (by kernel_rfl) (by kernel_rfl) (fun _ _ _ h => h) (Or.inl ⟨by rfl, ?y7⟩) (by assumption) ?r7
          case y7 => (intro w hSw; (try dsimp only at hSw); go_simp; try (with_reducible rfl))
          simp only [List.getElem_toArray, List.getElem_cons_succ, List.getElem_cons_zero, Act.put, List.setIfInBounds_toArray, List.set_cons_zero, List.set_cons_succ]
          refine wpAnyH_take (i := 8) (v := ?v8) rfl (by kernel_rfl) (by kernel_rfl) (by kernel_rfl) (fun _ _ _ h => h) (Or.inl ⟨by rfl, ?y8⟩) (by assumption) ?r8
          case y8 => (intro w hSw; (try dsimp only at hSw); go_simp; try (with_reducible rfl))
          simp only [List.getElem_toArray, List.getElem_cons_succ, List.getElem_cons_zero, Act.put, List.setIfInBounds_toArray, List.set_cons_zero, List.set_cons_succ]
          refine wpAnyH_ready (rs := [1, 9]) (by kernel_rfl) (by simp) ?_
          refine AllReadyH.cons rfl (fun K hK => ?_) (AllReadyH.cons rfl (fun K hK => ?_) AllReadyH.nil)
          · skip
            simp only [List.getElem_toArray, List.getElem_cons_succ, List.getElem_cons_zero]
            go_simp
            refine hK.out _ _ ?_ (fun hHeld => ?_)
            · exact hHeld
            clear hK K
            try simp only [Act.put, List.setIfInBounds_toArray, List.set_cons_zero, List.set_cons_succ]
            refine wpAnyH_ready (rs := [9]) (by kernel_rfl) (by simp) ?_
            refine AllReadyH.cons rfl (fun K hK => ?_) AllReadyH.nil
            simp only [List.getElem_toArray, List.getElem_cons_succ, List.getElem_cons_zero]
            go_simp
            go_at_call 70
            refine (CB.out _ (by first | exact (Below.refl _ _).drew | exact Below.refl _ _)).mono ?_
            rintro e w2 ⟨rfl, hb2, c2, c3, c4, c5⟩
            dsimp only
            refine hK.out _ _ ?_ (fun hHeld => ?_)
            · exact ⟨c3, c4, c5⟩
            clear hK K
            try simp only [Act.put, List.setIfInBounds_toArray, List.set_cons_zero, List.set_cons_succ]
            refine wpAnyH_ready (rs := [10]) (by kernel_rfl) (by simp) ?_
            refine AllReadyH.cons rfl (fun K hK => ?_) AllReadyH.nil
            simp only [List.getElem_toArray, List.getElem_cons_succ, List.getElem_cons_zero]
            go_simp
            go_at_call 56
            refine (CP.out _ (by first | exact hb2 | exact hb2.drew)).mono ?_
            rintro e w3 ⟨a2, q2, rfl, ho3, ⟨c6, c7, c8, c9⟩, c3a⟩
            dsimp only
            refine hK.out _ _ ?_ (fun hHeld => ?_)
            · exact ⟨c7, c8, c9⟩
            clear hK K
            try simp only [Act.put, List.setIfInBounds_toArray, List.set_cons_zero, List.set_cons_succ]
            refine wpAnyH_ready (rs := [11]) (by kernel_rfl) (by simp) ?_
            refine AllReadyH.cons rfl (fun K hK => ?_) AllReadyH.nil
            simp only [List.getElem_toArray, List.getElem_cons_succ, List.getElem_cons_zero]
            go_simp
            refine hK.out _ _ ?_ (fun hHeld => ?_)
            · exact (c3a _).2
            clear hK K
            try simp only [Act.put, List.setIfInBounds_toArray, List.set_cons_zero, List.set_cons_succ]
            refine wpAnyH_ready (rs := [12]) (by kernel_rfl) (by simp) ?_
            refine AllReadyH.cons rfl (fun K hK => ?_) AllReadyH.nil
            simp only [List.getElem_toArray, List.getElem_cons_succ, List.getElem_cons_zero]
            rw [if_pos (by rfl)]
            refine wp_append_lies _ (.tmp 28) (.tmp 38) 23 rfl (w.heap.size + 3) 50 i0 (.agg #[.int .i64 0, .string ByteArray.empty, .slice none 0 0]) 3 48 Tryd.underlying23 hi hz0 hz1 hz2 rfl (by decide) (.slice a1 nn c1) nn (flatC M) rfl (own_belowC HROW.out (ho3.2.trans (((Below.refl _ _).alloc (Nat.le_refl _) _).mono ho3.2.size))) ⟨w3.heap.size, 0, none⟩ 1 1 [.int .i64 f, .string y, .slice a2 N q2] rfl rfl (cell_three_new w3 _ rfl _ _ _ _) (by intro u hu; simp at hu; rcases hu with rfl | rfl | rfl <;> rfl) (by decide) (by unfold maxLen; omega) (by omega) (Nat.le_trans hbase (Nat.le_trans ho3.2.size (by show w3.heap.size ≤ (w3.alloc _).heap.size; simp))) _ rfl ?_
            intro g4 c4 w4 h4 hg4 _ _
            obtain ⟨pp, r0, r2, s4, s5⟩ := PP.out w3 a2 q2 g4 c4 w4 ho3 h4 hg4
            have HPP := hide pp
            have HS5 := hide s5
            clear pp s5 h4 hg4
            refine hK.out _ _ ?_ (fun hHeld => ?_)
            · exact s4
            clear hK K
            try simp only [Act.put, List.setIfInBounds_toArray, List.set_cons_zero, List.set_cons_succ]
            refine wpAnyH_take (i := 13) (v := ?v9) rfl (by kernel_rfl) (by kernel_rfl) (by kernel_rfl) (fun _ _ _ h => h) (Or.inl ⟨by rfl, ?y9⟩) (by assumption) ?r9
            case y9 => (intro w hSw; (try dsimp only at hSw); go_simp; try (with_reducible rfl))
            simp only [List.getElem_toArray, List.getElem_cons_succ, List.getElem_cons_zero, Act.put, List.setIfInBounds_toArray, List.set_cons_zero, List.set_cons_succ]
            refine wpAnyH_ready (rs := [14]) (by kernel_rfl) (by simp) ?_
            refine AllReadyH.cons rfl (fun K hK => ?_) AllReadyH.nil
            simp only [List.getElem_toArray, List.getElem_cons_succ, List.getElem_cons_zero]
            go_simp
            refine hK.out _ _ ?_ (fun hHeld => ?_)
            · exact HS5.out _
            clear hK K
            try simp only [Act.put, List.setIfInBounds_toArray, List.set_cons_zero, List.set_cons_succ]
            refine wpAnyH_done (by kernel_rfl) ?_ _
            clear PP CB CP hHeld r0 r2 s4 HS5
            go_wp2
            go_roundw
            case rel => exact ⟨nn + 1, by simp, HPP.out⟩
            case measure => simp [intOf]; omega
          · skip
            simp only [List.getElem_toArray, List.getElem_cons_succ, List.getElem_cons_zero]
            go_simp
            go_at_call 70
            refine (CB.out _ (by first | exact (Below.refl _ _).drew | exact Below.refl _ _)).mono ?_
            rintro e w2 ⟨rfl, hb2, c2, c3, c4, c5⟩
            dsimp only
            refine hK.out _ _ ?_ (fun hHeld => ?_)
            · exact ⟨c3, c4, c5⟩
            clear hK K
            try simp only [Act.put, List.setIfInBounds_toArray, List.set_cons_zero, List.set_cons_succ]
            refine wpAnyH_ready (rs := [1, 10]) (by kernel_rfl) (by simp) ?_
            refine AllReadyH.cons rfl (fun K hK => ?_) (AllReadyH.cons rfl (fun K hK => ?_) AllReadyH.nil)
            · skip
              simp only [List.getElem_toArray, List.getElem_cons_succ, List.getElem_cons_zero]
              go_simp
              refine hK.out _ _ ?_ (fun hHeld => ?_)
              · exact hHeld
              clear hK K
              try simp only [Act.put, List.setIfInBounds_toArray, List.set_cons_zero, List.set_cons_succ]
              refine wpAnyH_ready (rs := [10]) (by kernel_rfl) (by simp) ?_
              refine AllReadyH.cons rfl (fun K hK => ?_) AllReadyH.nil
              simp only [List.getElem_toArray, List.getElem_cons_succ, List.getElem_cons_zero]
              go_simp
              go_at_call 56
              refine (CP.out _ (by first | exact hb2 | exact hb2.drew)).mono ?_
              rintro e w3 ⟨a2, q2, rfl, ho3, ⟨c6, c7, c8, c9⟩, c3a⟩
              dsimp only
              refine hK.out _ _ ?_ (fun hHeld => ?_)
              · exact ⟨c7, c8, c9⟩
              clear hK K
              try simp only [Act.put, List.setIfInBounds_toArray, List.set_cons_zero, List.set_cons_succ]
              refine wpAnyH_ready (rs := [11]) (by kernel_rfl) (by simp) ?_
              refine AllReadyH.cons rfl (fun K hK => ?_) AllReadyH.nil
              simp only [List.getElem_toArray, List.getElem_cons_succ, List.getElem_cons_zero]
              go_simp
              refine hK.out _ _ ?_ (fun hHeld => ?_)
              · exact (c3a _).2
              clear hK K
              try simp only [Act.put, List.setIfInBounds_toArray, List.set_cons_zero, List.set_cons_succ]
              refine wpAnyH_ready (rs := [12]) (by kernel_rfl) (by simp) ?_
              refine AllReadyH.cons rfl (fun K hK => ?_) AllReadyH.nil
              simp only [List.getElem_toArray, List.getElem_cons_succ, List.getElem_cons_zero]
              rw [if_pos (by rfl)]
              refine wp_append_lies _ (.tmp 28) (.tmp 38) 23 rfl (w.heap.size + 3) 50 i0 (.agg #[.int .i64 0, .string ByteArray.empty, .slice none 0 0]) 3 48 Tryd.underlying23 hi hz0 hz1 hz2 rfl (by decide) (.slice a1 nn c1) nn (flatC M) rfl (own_belowC HROW.out (ho3.2.trans (((Below.refl _ _).alloc (Nat.le_refl _) _).mono ho3.2.size))) ⟨w3.heap.size, 0, none⟩ 1 1 [.int .i64 f, .string y, .slice a2 N q2] rfl rfl (cell_three_new w3 _ rfl _ _ _ _) (by intro u hu; simp at hu; rcases hu with rfl | rfl | rfl <;> rfl) (by decide) (by unfold maxLen; omega) (by omega) (Nat.le_trans hbase (Nat.le_trans ho3.2.size (by show w3.heap.size ≤ (w3.alloc _).heap.size; simp))) _ rfl ?_
              intro g4 c4 w4 h4 hg4 _ _
              obtain ⟨pp, r0, r2, s4, s5⟩ := PP.out w3 a2 q2 g4 c4 w4 ho3 h4 hg4
              have HPP := hide pp
              have HS5 := hide s5
              clear pp s5 h4 hg4
              refine hK.out _ _ ?_ (fun hHeld => ?_)
              · exact s4
              clear hK K
              try simp only [Act.put, List.setIfInBounds_toArray, List.set_cons_zero, List.set_cons_succ]
              refine wpAnyH_take (i := 13) (v := ?v10) rfl (by kernel_rfl) (by kernel_rfl) (by kernel_rfl) (fun _ _ _ h => h) (Or.inl ⟨by rfl, ?y10⟩) (by assumption) ?r10
              case y10 => (intro w hSw; (try dsimp only at hSw); go_simp; try (with_reducible rfl))
              simp only [List.getElem_toArray, List.getElem_cons_succ, List.getElem_cons_zero, Act.put, List.setIfInBounds_toArray, List.set_cons_zero, List.set_cons_succ]
              refine wpAnyH_ready (rs := [14]) (by kernel_rfl) (by simp) ?_
              refine AllReadyH.cons rfl (fun K hK => ?_) AllReadyH.nil
              simp only [List.getElem_toArray, List.getElem_cons_succ, List.getElem_cons_zero]
              go_simp
              refine hK.out _ _ ?_ (fun hHeld => ?_)
              · exact HS5.out _
              clear hK K
              try simp only [Act.put, List.setIfInBounds_toArray, List.set_cons_zero, List.set_cons_succ]
              refine wpAnyH_done (by kernel_rfl) ?_ _
              clear PP CB CP hHeld r0 r2 s4 HS5
              go_wp2
              go_roundw
              case rel => exact ⟨nn + 1, by simp, HPP.out⟩
              case measure => simp [intOf]; omega
            · skip
              simp only [List.getElem_toArray, List.getElem_cons_succ, List.getElem_cons_zero]
              go_simp
              go_at_call 56
              refine (CP.out _ (by first | exact hb2 | exact hb2.drew)).mono ?_
              rintro e w3 ⟨a2, q2, rfl, ho3, ⟨c6, c7, c8, c9⟩, c3a⟩
              dsimp only
              refine hK.out _ _ ?_ (fun hHeld => ?_)
              · exact ⟨c7, c8, c9⟩
              clear hK K
              try simp only [Act.put, List.setIfInBounds_toArray, List.set_cons_zero, List.set_cons_succ]
              refine wpAnyH_ready (rs := [1, 11]) (by kernel_rfl) (by simp) ?_
              refine AllReadyH.cons rfl (fun K hK => ?_) (AllReadyH.cons rfl (fun K hK => ?_) AllReadyH.nil)
              · skip
                simp only [List.getElem_toArray, List.getElem_cons_succ, List.getElem_cons_zero]
                go_simp
                refine hK.out _ _ ?_ (fun hHeld => ?_)
                · exact hHeld
                clear hK K
                try simp only [Act.put, List.setIfInBounds_toArray, List.set_cons_zero, List.set_cons_succ]
                refine wpAnyH_ready (rs := [11]) (by kernel_rfl) (by simp) ?_
                refine AllReadyH.cons rfl (fun K hK => ?_) AllReadyH.nil
                simp only [List.getElem_toArray, List.getElem_cons_succ, List.getElem_cons_zero]
                go_simp
                refine hK.out _ _ ?_ (fun hHeld => ?_)
                · exact (c3a _).2
                clear hK K
                try simp only [Act.put, List.setIfInBounds_toArray, List.set_cons_zero, List.set_cons_succ]
                refine wpAnyH_ready (rs := [12]) (by kernel_rfl) (by simp) ?_
                refine AllReadyH.cons rfl (fun K hK => ?_) AllReadyH.nil
                simp only [List.getElem_toArray, List.getElem_cons_succ, List.getElem_cons_zero]
                rw [if_pos (by rfl)]
                refine wp_append_lies _ (.tmp 28) (.tmp 38) 23 rfl (w.heap.size + 3) 50 i0 (.agg #[.int .i64 0, .string ByteArray.empty, .slice none 0 0]) 3 48 Tryd.underlying23 hi hz0 hz1 hz2 rfl (by decide) (.slice a1 nn c1) nn (flatC M) rfl (own_belowC HROW.out (ho3.2.trans (((Below.refl _ _).alloc (Nat.le_refl _) _).mono ho3.2.size))) ⟨w3.heap.size, 0, none⟩ 1 1 [.int .i64 f, .string y, .slice a2 N q2] rfl rfl (cell_three_new w3 _ rfl _ _ _ _) (by intro u hu; simp at hu; rcases hu with rfl | rfl | rfl <;> rfl) (by decide) (by unfold maxLen; omega) (by omega) (Nat.le_trans hbase (Nat.le_trans ho3.2.size (by show w3.heap.size ≤ (w3.alloc _).heap.size; simp))) _ rfl ?_
                intro g4 c4 w4 h4 hg4 _ _
                obtain ⟨pp, r0, r2, s4, s5⟩ := PP.out w3 a2 q2 g4 c4 w4 ho3 h4 hg4
                have HPP := hide pp
                have HS5 := hide s5
                clear pp s5 h4 hg4
                refine hK.out _ _ ?_ (fun hHeld => ?_)
                · exact s4
                clear hK K
                try simp only [Act.put, List.setIfInBounds_toArray, List.set_cons_zero, List.set_cons_succ]
                refine wpAnyH_take (i := 13) (v := ?v11) rfl (by kernel_rfl) (by kernel_rfl) (by kernel_rfl) (fun _ _ _ h => h) (Or.inl ⟨by rfl, ?y11⟩) (by assumption) ?r11
                case y11 => (intro w hSw; (try dsimp only at hSw); go_simp; try (with_reducible rfl))
                simp only [List.getElem_toArray, List.getElem_cons_succ, List.getElem_cons_zero, Act.put, List.setIfInBounds_toArray, List.set_cons_zero, List.set_cons_succ]
                refine wpAnyH_ready (rs := [14]) (by kernel_rfl) (by simp) ?_
                refine AllReadyH.cons rfl (fun K hK => ?_) AllReadyH.nil
                simp only [List.getElem_toArray, List.getElem_cons_succ, List.getElem_cons_zero]
                go_simp
                refine hK.out _ _ ?_ (fun hHeld => ?_)
                · exact HS5.out _
                clear hK K
                try simp only [Act.put, List.setIfInBounds_toArray, List.set_cons_zero, List.set_cons_succ]
                refine wpAnyH_done (by kernel_rfl) ?_ _
                clear PP CB CP hHeld r0 r2 s4 HS5
                go_wp2
                go_roundw
                case rel => exact ⟨nn + 1, by simp, HPP.out⟩
                case measure => simp [intOf]; omega
              · skip
                simp only [List.getElem_toArray, List.getElem_cons_succ, List.getElem_cons_zero]
                go_simp
                refine hK.out _ _ ?_ (fun hHeld => ?_)
                · exact (c3a _).2
                clear hK K
                try simp only [Act.put, List.setIfInBounds_toArray, List.set_cons_zero, List.set_cons_succ]
                refine wpAnyH_ready (rs := [1]) (by kernel_rfl) (by simp) ?_
                refine AllReadyH.cons rfl (fun K hK => ?_) AllReadyH.nil
                simp only [List.getElem_toArray, List.getElem_cons_succ, List.getElem_cons_zero]
                obtain ⟨x0, _, _, _⟩ := c3a (.cells #[.int .i64 f, .string y, .slice a2 N q2] 50 (0, 0))
                go_simp
                refine hK.out _ _ ?_ (fun hHeld => ?_)
                · exact hHeld
                clear hK K
                try simp only [Act.put, List.setIfInBounds_toArray, List.set_cons_zero, List.set_cons_succ]
                refine wpAnyH_ready (rs := [12]) (by kernel_rfl) (by simp) ?_
                refine AllReadyH.cons rfl (fun K hK => ?_) AllReadyH.nil
                simp only [List.getElem_toArray, List.getElem_cons_succ, List.getElem_cons_zero]
                rw [if_pos (by rfl)]
                refine wp_append_lies _ (.tmp 28) (.tmp 38) 23 rfl (w.heap.size + 3) 50 i0 (.agg #[.int .i64 0, .string ByteArray.empty, .slice none 0 0]) 3 48 Tryd.underlying23 hi hz0 hz1 hz2 rfl (by decide) (.slice a1 nn c1) nn (flatC M) rfl (own_belowC HROW.out (ho3.2.trans (((Below.refl _ _).alloc (Nat.le_refl _) _).mono ho3.2.size))) ⟨w3.heap.size, 0, none⟩ 1 1 [.int .i64 f, .string y, .slice a2 N q2] rfl rfl (cell_three_new w3 _ rfl _ _ _ _) (by intro u hu; simp at hu; rcases hu with rfl | rfl | rfl <;> rfl) (by decide) (by unfold maxLen; omega) (by omega) (Nat.le_trans hbase (Nat.le_trans ho3.2.size (by show w3.heap.size ≤ (w3.alloc _).heap.size; simp))) _ rfl ?_
                intro g4 c4 w4 h4 hg4 _ _
                obtain ⟨pp, r0, r2, s4, s5⟩ := PP.out w3 a2 q2 g4 c4 w4 ho3 h4 hg4
                have HPP := hide pp
                have HS5 := hide s5
                clear pp s5 h4 hg4
                refine hK.out _ _ ?_ (fun hHeld => ?_)
                · exact s4
                clear hK K
                try simp only [Act.put, List.setIfInBounds_toArray, List.set_cons_zero, List.set_cons_succ]
                refine wpAnyH_take (i := 13) (v := ?v12) rfl (by kernel_rfl) (by kernel_rfl) (by kernel_rfl) (fun _ _ _ h => h) (Or.inl ⟨by rfl, ?y12⟩) (by assumption) ?r12
                case y12 => (intro w hSw; (try dsimp only at hSw); go_simp; try (with_reducible rfl))
                simp only [List.getElem_toArray, List.getElem_cons_succ, List.getElem_cons_zero, Act.put, List.setIfInBounds_toArray, List.set_cons_zero, List.set_cons_succ]
                refine wpAnyH_ready (rs := [14]) (by kernel_rfl) (by simp) ?_
                refine AllReadyH.cons rfl (fun K hK => ?_) AllReadyH.nil
                simp only [List.getElem_toArray, List.getElem_cons_succ, List.getElem_cons_zero]
                go_simp
                refine hK.out _ _ ?_ (fun hHeld => ?_)
                · exact HS5.out _
                clear hK K
                try simp only [Act.put, List.setIfInBounds_toArray, List.set_cons_zero, List.set_cons_succ]
                refine wpAnyH_done (by kernel_rfl) ?_ _
                clear PP CB CP hHeld r0 r2 s4 HS5
                go_wp2
                go_roundw
                case rel => exact ⟨nn + 1, by simp, HPP.out⟩
                case measure => simp [intOf]; omega
        · have hkb : ((nn : Int) == 0) = false := by simp; omega
          have hfl : f < o := hfo2 hk0
          clear hk0
          go_upto_region 6 with (first | (rw [HV.out]) | fail)
          first | rw [HV.out] | skip
          refine wp_region_held_drew (S := (fun wx => wx.cell? ⟨wr.heap.size, 0, none⟩ = some (.int .i64 f) ∧ wx.cell? ⟨wr.heap.size, 1, none⟩ = some (.string s) ∧ wx.cell? ⟨wr.heap.size, 2, none⟩ = some (.slice ai m ci))) (by kernel_rfl) ⟨p0, p1, p2⟩ (fun hHeld => ?_)
          refine wpAnyH_take (i := 0) (v := ?vb1) rfl (by kernel_rfl) (by kernel_rfl) (by kernel_rfl) (fun _ _ _ h => h) (Or.inl ⟨by rfl, ?yb1⟩) (by assumption) ?rb1
          case yb1 => (intro w hSw; (try dsimp only at hSw); go_simp; try (with_reducible rfl))
          simp only [List.getElem_toArray, List.getElem_cons_zero, Act.put, List.setIfInBounds_toArray, List.set_cons_zero, List.set_cons_succ]
          refine wpAnyH_take (i := 2) (v := ?vb2) rfl (by kernel_rfl) (by kernel_rfl) (by kernel_rfl) (fun _ _ _ h => h) (Or.inl ⟨by rfl, ?yb2⟩) (by assumption) ?rb2
          case yb2 => (intro w hSw; (try dsimp only at hSw); go_simp; try (with_reducible rfl))
          simp only [List.getElem_toArray, List.getElem_cons_succ, List.getElem_cons_zero, Act.put, List.setIfInBounds_toArray, List.set_cons_zero, List.set_cons_succ]
          refine wpAnyH_take (i := 3) (v := ?vb3) rfl (by kernel_rfl) (by kernel_rfl) (by kernel_rfl) (fun _ _ _ h => h) (Or.inl ⟨by rfl, ?yb3⟩) (by assumption) ?rb3
          case yb3 => (intro w hSw; (try dsimp only at hSw); go_simp; try (with_reducible rfl))
          simp only [List.getElem_toArray, List.getElem_cons_succ, List.getElem_cons_zero, Act.put, List.setIfInBounds_toArray, List.set_cons_zero, List.set_cons_succ]
          refine wpAnyH_take (i := 4) (v := ?vb4) rfl (by kernel_rfl) (by kernel_rfl) (by kernel_rfl) (fun _ _ _ h => h) (Or.inl ⟨by rfl, ?yb4⟩) (by assumption) ?rb4
          case yb4 => (intro w hSw; (try dsimp only at hSw); go_simp; try (with_reducible rfl))
          simp only [List.getElem_toArray, List.getElem_cons_succ, List.getElem_cons_zero, Act.put, List.setIfInBounds_toArray, List.set_cons_zero, List.set_cons_succ]
          refine wpAnyH_take (i := 5) (v := ?vb5) rfl (by kernel_rfl) (by kernel_rfl) (by kernel_rfl) (fun _ _ _ h => h) (Or.inl ⟨by rfl, ?yb5⟩) (by assumption) ?rb5
          case yb5 => (intro w hSw; (try dsimp only at hSw); go_simp; try (with_reducible rfl))
          simp only [List.getElem_toArray, List.getElem_cons_succ, List.getElem_cons_zero, Act.put, List.setIfInBounds_toArray, List.set_cons_zero, List.set_cons_succ]
          refine wpAnyH_take (i := 6) (v := ?vb6) rfl (by kernel_rfl) (by kernel_rfl) (by kernel_rfl) (fun _ _ _ h => h) (Or.inl ⟨by rfl, ?yb6⟩) (by assumption) ?rb6
          case yb6 => (intro w hSw; (try dsimp only at hSw); go_simp; try (with_reducible rfl))
          simp only [List.getElem_toArray, List.getElem_cons_succ, List.getElem_cons_zero, Act.put, List.setIfInBounds_toArray, List.set_cons_zero, List.set_cons_succ]
          refine wpAnyH_take (i := 7) (v := ?vb7) rfl (by kernel_rfl) (by kernel_rfl) (by kernel_rfl) (fun _ _ _ h => h) (Or.inl ⟨by rfl, ?yb7⟩) (by assumption) ?rb7
          case yb7 => (intro w hSw; (try dsimp only at hSw); go_simp; try (with_reducible rfl))
          simp only [List.getElem_toArray, List.getElem_cons_succ, List.getElem_cons_zero, Act.put, List.setIfInBounds_toArray, List.set_cons_zero, List.set_cons_succ]
          refine wpAnyH_take (i := 8) (v := ?vb8) rfl (by kernel_rfl) (by kernel_rfl) (by kernel_rfl) (fun _ _ _ h => h) (Or.inl ⟨by rfl, ?yb8⟩) (by assumption) ?rb8
          case yb8 => (intro w hSw; (try dsimp only at hSw); go_simp; try (with_reducible rfl))
          simp only [List.getElem_toArray, List.getElem_cons_succ, List.getElem_cons_zero, Act.put, List.setIfInBounds_toArray, List.set_cons_zero, List.set_cons_succ]
          refine wpAnyH_ready (rs := [1, 9]) (by kernel_rfl) (by simp) ?_
          refine AllReadyH.cons rfl (fun K hK => ?_) (AllReadyH.cons rfl (fun K hK => ?_) AllReadyH.nil)
          · skip
            simp only [List.getElem_toArray, List.getElem_cons_succ, List.getElem_cons_zero]
            go_simp
            refine hK.out _ _ ?_ (fun hHeld => ?_)
            · exact hHeld
            clear hK K
            try simp only [Act.put, List.setIfInBounds_toArray, List.set_cons_zero, List.set_cons_succ]
            refine wpAnyH_ready (rs := [9]) (by kernel_rfl) (by simp) ?_
            refine AllReadyH.cons rfl (fun K hK => ?_) AllReadyH.nil
            simp only [List.getElem_toArray, List.getElem_cons_succ, List.getElem_cons_zero]
            go_simp
            go_at_call 70
            refine (CB.out _ (by first | exact (Below.refl _ _).drew | exact Below.refl _ _)).mono ?_
            rintro e w2 ⟨rfl, hb2, c2, c3, c4, c5⟩
            dsimp only
            refine hK.out _ _ ?_ (fun hHeld => ?_)
            · exact ⟨c3, c4, c5⟩
            clear hK K
            try simp only [Act.put, List.setIfInBounds_toArray, List.set_cons_zero, List.set_cons_succ]
            refine wpAnyH_ready (rs := [10]) (by kernel_rfl) (by simp) ?_
            refine AllReadyH.cons rfl (fun K hK => ?_) AllReadyH.nil
            simp only [List.getElem_toArray, List.getElem_cons_succ, List.getElem_cons_zero]
            go_simp
            go_at_call 56
            refine (CP.out _ (by first | exact hb2 | exact hb2.drew)).mono ?_
            rintro e w3 ⟨a2, q2, rfl, ho3, ⟨c6, c7, c8, c9⟩, c3a⟩
            dsimp only
            refine hK.out _ _ ?_ (fun hHeld => ?_)
            · exact ⟨c7, c8, c9⟩
            clear hK K
            try simp only [Act.put, List.setIfInBounds_toArray, List.set_cons_zero, List.set_cons_succ]
            refine wpAnyH_ready (rs := [11]) (by kernel_rfl) (by simp) ?_
            refine AllReadyH.cons rfl (fun K hK => ?_) AllReadyH.nil
            simp only [List.getElem_toArray, List.getElem_cons_succ, List.getElem_cons_zero]
            go_simp
            refine hK.out _ _ ?_ (fun hHeld => ?_)
            · exact (c3a _).2
            clear hK K
            try simp only [Act.put, List.setIfInBounds_toArray, List.set_cons_zero, List.set_cons_succ]
            refine wpAnyH_ready (rs := [12]) (by kernel_rfl) (by simp) ?_
            refine AllReadyH.cons rfl (fun K hK => ?_) AllReadyH.nil
            simp only [List.getElem_toArray, List.getElem_cons_succ, List.getElem_cons_zero]
            rw [if_pos (by rfl)]
            refine wp_append_lies _ (.tmp 28) (.tmp 38) 23 rfl (w.heap.size + 3) 50 i0 (.agg #[.int .i64 0, .string ByteArray.empty, .slice none 0 0]) 3 48 Tryd.underlying23 hi hz0 hz1 hz2 rfl (by decide) (.slice a1 nn c1) nn (flatC M) rfl (own_belowC HROW.out (ho3.2.trans (((Below.refl _ _).alloc (Nat.le_refl _) _).mono ho3.2.size))) ⟨w3.heap.size, 0, none⟩ 1 1 [.int .i64 f, .string y, .slice a2 N q2] rfl rfl (cell_three_new w3 _ rfl _ _ _ _) (by intro u hu; simp at hu; rcases hu with rfl | rfl | rfl <;> rfl) (by decide) (by unfold maxLen; omega) (by omega) (Nat.le_trans hbase (Nat.le_trans ho3.2.size (by show w3.heap.size ≤ (w3.alloc _).heap.size; simp))) _ rfl ?_
            intro g4 c4 w4 h4 hg4 _ _
            obtain ⟨pp, r0, r2, s4, s5⟩ := PP.out w3 a2 q2 g4 c4 w4 ho3 h4 hg4
            have HPP := hide pp
            have HS5 := hide s5
            clear pp s5 h4 hg4
            refine hK.out _ _ ?_ (fun hHeld => ?_)
            · exact s4
            clear hK K
            try simp only [Act.put, List.setIfInBounds_toArray, List.set_cons_zero, List.set_cons_succ]
            refine wpAnyH_take (i := 13) (v := ?vb9) rfl (by kernel_rfl) (by kernel_rfl) (by kernel_rfl) (fun _ _ _ h => h) (Or.inl ⟨by rfl, ?yb9⟩) (by assumption) ?rb9
            case yb9 => (intro w hSw; (try dsimp only at hSw); go_simp; try (with_reducible rfl))
            simp only [List.getElem_toArray, List.getElem_cons_succ, List.getElem_cons_zero, Act.put, List.setIfInBounds_toArray, List.set_cons_zero, List.set_cons_succ]
            refine wpAnyH_ready (rs := [14]) (by kernel_rfl) (by simp) ?_
            refine AllReadyH.cons rfl (fun K hK => ?_) AllReadyH.nil
            simp only [List.getElem_toArray, List.getElem_cons_succ, List.getElem_cons_zero]
            go_simp
            refine hK.out _ _ ?_ (fun hHeld => ?_)
            · exact HS5.out _
            clear hK K
            try simp only [Act.put, List.setIfInBounds_toArray, List.set_cons_zero, List.set_cons_succ]
            refine wpAnyH_done (by kernel_rfl) ?_ _
            clear PP CB CP hHeld r0 r2 s4 HS5
            go_wp2
            go_roundw
            case rel => exact ⟨nn + 1, by simp, HPP.out⟩
            case measure => simp [intOf]; omega
          · skip
            simp only [List.getElem_toArray, List.getElem_cons_succ, List.getElem_cons_zero]
            go_simp
            go_at_call 70
            refine (CB.out _ (by first | exact (Below.refl _ _).drew | exact Below.refl _ _)).mono ?_
            rintro e w2 ⟨rfl, hb2, c2, c3, c4, c5⟩
            dsimp only
            refine hK.out _ _ ?_ (fun hHeld => ?_)
            · exact ⟨c3, c4, c5⟩
            clear hK K
            try simp only [Act.put, List.setIfInBounds_toArray, List.set_cons_zero, List.set_cons_succ]
            refine wpAnyH_ready (rs := [1, 10]) (by kernel_rfl) (by simp) ?_
            refine AllReadyH.cons rfl (fun K hK => ?_) (AllReadyH.cons rfl (fun K hK => ?_) AllReadyH.nil)
            · skip
              simp only [List.getElem_toArray, List.getElem_cons_succ, List.getElem_cons_zero]
              go_simp
              refine hK.out _ _ ?_ (fun hHeld => ?_)
              · exact hHeld
              clear hK K
              try simp only [Act.put, List.setIfInBounds_toArray, List.set_cons_zero, List.set_cons_succ]
              refine wpAnyH_ready (rs := [10]) (by kernel_rfl) (by simp) ?_
              refine AllReadyH.cons rfl (fun K hK => ?_) AllReadyH.nil
              simp only [List.getElem_toArray, List.getElem_cons_succ, List.getElem_cons_zero]
              go_simp
              go_at_call 56
              refine (CP.out _ (by first | exact hb2 | exact hb2.drew)).mono ?_
              rintro e w3 ⟨a2, q2, rfl, ho3, ⟨c6, c7, c8, c9⟩, c3a⟩
              dsimp only
              refine hK.out _ _ ?_ (fun hHeld => ?_)
              · exact ⟨c7, c8, c9⟩
              clear hK K
              try simp only [Act.put, List.setIfInBounds_toArray, List.set_cons_zero, List.set_cons_succ]
              refine wpAnyH_ready (rs := [11]) (by kernel_rfl) (by simp) ?_
              refine AllReadyH.cons rfl (fun K hK => ?_) AllReadyH.nil
              simp only [List.getElem_toArray, List.getElem_cons_succ, List.getElem_cons_zero]
              go_simp
              refine hK.out _ _ ?_ (fun hHeld => ?_)
              · exact (c3a _).2
              clear hK K
              try simp only [Act.put, List.setIfInBounds_toArray, List.set_cons_zero, List.set_cons_succ]
              refine wpAnyH_ready (rs := [12]) (by kernel_rfl) (by simp) ?_
              refine AllReadyH.cons rfl (fun K hK => ?_) AllReadyH.nil
              simp only [List.getElem_toArray, List.getElem_cons_succ, List.getElem_cons_zero]
              rw [if_pos (by rfl)]
              refine wp_append_lies _ (.tmp 28) (.tmp 38) 23 rfl (w.heap.size + 3) 50 i0 (.agg #[.int .i64 0, .string ByteArray.empty, .slice none 0 0]) 3 48 Tryd.underlying23 hi hz0 hz1 hz2 rfl (by decide) (.slice a1 nn c1) nn (flatC M) rfl (own_belowC HROW.out (ho3.2.trans (((Below.refl _ _).alloc (Nat.le_refl _) _).mono ho3.2.size))) ⟨w3.heap.size, 0, none⟩ 1 1 [.int .i64 f, .string y, .slice a2 N q2] rfl rfl (cell_three_new w3 _ rfl _ _ _ _) (by intro u hu; simp at hu; rcases hu with rfl | rfl | rfl <;> rfl) (by decide) (by unfold maxLen; omega) (by omega) (Nat.le_trans hbase (Nat.le_trans ho3.2.size (by show w3.heap.size ≤ (w3.alloc _).heap.size; simp))) _ rfl ?_
              intro g4 c4 w4 h4 hg4 _ _
              obtain ⟨pp, r0, r2, s4, s5⟩ := PP.out w3 a2 q2 g4 c4 w4 ho3 h4 hg4
              have HPP := hide pp
              have HS5 := hide s5
              clear pp s5 h4 hg4
              refine hK.out _ _ ?_ (fun hHeld => ?_)
              · exact s4
              clear hK K
              try simp only [Act.put, List.setIfInBounds_toArray, List.set_cons_zero, List.set_cons_succ]
              refine wpAnyH_take (i := 13) (v := ?vb10) rfl (by kernel_rfl) (by kernel_rfl) (by kernel_rfl) (fun _ _ _ h => h) (Or.inl ⟨by rfl, ?yb10⟩) (by assumption) ?rb10
              case yb10 => (intro w hSw; (try dsimp only at hSw); go_simp; try (with_reducible rfl))
              simp only [List.getElem_toArray, List.getElem_cons_succ, List.getElem_cons_zero, Act.put, List.setIfInBounds_toArray, List.set_cons_zero, List.set_cons_succ]
              refine wpAnyH_ready (rs := [14]) (by kernel_rfl) (by simp) ?_
              refine AllReadyH.cons rfl (fun K hK => ?_) AllReadyH.nil
              simp only [List.getElem_toArray, List.getElem_cons_succ, List.getElem_cons_zero]
              go_simp
              refine hK.out _ _ ?_ (fun hHeld => ?_)
              · exact HS5.out _
              clear hK K
              try simp only [Act.put, List.setIfInBounds_toArray, List.set_cons_zero, List.set_cons_succ]
              refine wpAnyH_done (by kernel_rfl) ?_ _
              clear PP CB CP hHeld r0 r2 s4 HS5
              go_wp2
              go_roundw
              case rel => exact ⟨nn + 1, by simp, HPP.out⟩
              case measure => simp [intOf]; omega
            · skip
              simp only [List.getElem_toArray, List.getElem_cons_succ, List.getElem_cons_zero]
              go_simp
              go_at_call 56
              refine (CP.out _ (by first | exact hb2 | exact hb2.drew)).mono ?_
              rintro e w3 ⟨a2, q2, rfl, ho3, ⟨c6, c7, c8, c9⟩, c3a⟩
              dsimp only
              refine hK.out _ _ ?_ (fun hHeld => ?_)
              · exact ⟨c7, c8, c9⟩
              clear hK K
              try simp only [Act.put, List.setIfInBounds_toArray, List.set_cons_zero, List.set_cons_succ]
              refine wpAnyH_ready (rs := [1, 11]) (by kernel_rfl) (by simp) ?_
              refine AllReadyH.cons rfl (fun K hK => ?_) (AllReadyH.cons rfl (fun K hK => ?_) AllReadyH.nil)
              · skip
                simp only [List.getElem_toArray, List.getElem_cons_succ, List.getElem_cons_zero]
                go_simp
                refine hK.out _ _ ?_ (fun hHeld => ?_)
                · exact hHeld
                clear hK K
                try simp only [Act.put, List.setIfInBounds_toArray, List.set_cons_zero, List.set_cons_succ]
                refine wpAnyH_ready (rs := [11]) (by kernel_rfl) (by simp) ?_
                refine AllReadyH.cons rfl (fun K hK => ?_) AllReadyH.nil
                simp only [List.getElem_toArray, List.getElem_cons_succ, List.getElem_cons_zero]
                go_simp
                refine hK.out _ _ ?_ (fun hHeld => ?_)
                · exact (c3a _).2
                clear hK K
                try simp only [Act.put, List.setIfInBounds_toArray, List.set_cons_zero, List.set_cons_succ]
                refine wpAnyH_ready (rs := [12]) (by kernel_rfl) (by simp) ?_
                refine AllReadyH.cons rfl (fun K hK => ?_) AllReadyH.nil
                simp only [List.getElem_toArray, List.getElem_cons_succ, List.getElem_cons_zero]
                rw [if_pos (by rfl)]
                refine wp_append_lies _ (.tmp 28) (.tmp 38) 23 rfl (w.heap.size + 3) 50 i0 (.agg #[.int .i64 0, .string ByteArray.empty, .slice none 0 0]) 3 48 Tryd.underlying23 hi hz0 hz1 hz2 rfl (by decide) (.slice a1 nn c1) nn (flatC M) rfl (own_belowC HROW.out (ho3.2.trans (((Below.refl _ _).alloc (Nat.le_refl _) _).mono ho3.2.size))) ⟨w3.heap.size, 0, none⟩ 1 1 [.int .i64 f, .string y, .slice a2 N q2] rfl rfl (cell_three_new w3 _ rfl _ _ _ _) (by intro u hu; simp at hu; rcases hu with rfl | rfl | rfl <;> rfl) (by decide) (by unfold maxLen; omega) (by omega) (Nat.le_trans hbase (Nat.le_trans ho3.2.size (by show w3.heap.size ≤ (w3.alloc _).heap.size; simp))) _ rfl ?_
                intro g4 c4 w4 h4 hg4 _ _
                obtain ⟨pp, r0, r2, s4, s5⟩ := PP.out w3 a2 q2 g4 c4 w4 ho3 h4 hg4
                have HPP := hide pp
                have HS5 := hide s5
                clear pp s5 h4 hg4
                refine hK.out _ _ ?_ (fun hHeld => ?_)
                · exact s4
                clear hK K
                try simp only [Act.put, List.setIfInBounds_toArray, List.set_cons_zero, List.set_cons_succ]
                refine wpAnyH_take (i := 13) (v := ?vb11) rfl (by kernel_rfl) (by kernel_rfl) (by kernel_rfl) (fun _ _ _ h => h) (Or.inl ⟨by rfl, ?yb11⟩) (by assumption) ?rb11
                case yb11 => (intro w hSw; (try dsimp only at hSw); go_simp; try (with_reducible rfl))
                simp only [List.getElem_toArray, List.getElem_cons_succ, List.getElem_cons_zero, Act.put, List.setIfInBounds_toArray, List.set_cons_zero, List.set_cons_succ]
                refine wpAnyH_ready (rs := [14]) (by kernel_rfl) (by simp) ?_
                refine AllReadyH.cons rfl (fun K hK => ?_) AllReadyH.nil
                simp only [List.getElem_toArray, List.getElem_cons_succ, List.getElem_cons_zero]
                go_simp
                refine hK.out _ _ ?_ (fun hHeld => ?_)
                · exact HS5.out _
                clear hK K
                try simp only [Act.put, List.setIfInBounds_toArray, List.set_cons_zero, List.set_cons_succ]
                refine wpAnyH_done (by kernel_rfl) ?_ _
                clear PP CB CP hHeld r0 r2 s4 HS5
                go_wp2
                go_roundw
                case rel => exact ⟨nn + 1, by simp, HPP.out⟩
                case measure => simp [intOf]; omega
              · skip
                simp only [List.getElem_toArray, List.getElem_cons_succ, List.getElem_cons_zero]
                go_simp
                refine hK.out _ _ ?_ (fun hHeld => ?_)
                · exact (c3a _).2
                clear hK K
                try simp only [Act.put, List.setIfInBounds_toArray, List.set_cons_zero, List.set_cons_succ]
                refine wpAnyH_ready (rs := [1]) (by kernel_rfl) (by simp) ?_
                refine AllReadyH.cons rfl (fun K hK => ?_) AllReadyH.nil
                simp only [List.getElem_toArray, List.getElem_cons_succ, List.getElem_cons_zero]
                obtain ⟨x0, _, _, _⟩ := c3a (.cells #[.int .i64 f, .string y, .slice a2 N q2] 50 (0, 0))
                go_simp
                refine hK.out _ _ ?_ (fun hHeld => ?_)
                · exact hHeld
                clear hK K
                try simp only [Act.put, List.setIfInBounds_toArray, List.set_cons_zero, List.set_cons_succ]
                refine wpAnyH_ready (rs := [12]) (by kernel_rfl) (by simp) ?_
                refine AllReadyH.cons rfl (fun K hK => ?_) AllReadyH.nil
                simp only [List.getElem_toArray, List.getElem_cons_succ, List.getElem_cons_zero]
                rw [if_pos (by rfl)]
                refine wp_append_lies _ (.tmp 28) (.tmp 38) 23 rfl (w.heap.size + 3) 50 i0 (.agg #[.int .i64 0, .string ByteArray.empty, .slice none 0 0]) 3 48 Tryd.underlying23 hi hz0 hz1 hz2 rfl (by decide) (.slice a1 nn c1) nn (flatC M) rfl (own_belowC HROW.out (ho3.2.trans (((Below.refl _ _).alloc (Nat.le_refl _) _).mono ho3.2.size))) ⟨w3.heap.size, 0, none⟩ 1 1 [.int .i64 f, .string y, .slice a2 N q2] rfl rfl (cell_three_new w3 _ rfl _ _ _ _) (by intro u hu; simp at hu; rcases hu with rfl | rfl | rfl <;> rfl) (by decide) (by unfold maxLen; omega) (by omega) (Nat.le_trans hbase (Nat.le_trans ho3.2.size (by show w3.heap.size ≤ (w3.alloc _).heap.size; simp))) _ rfl ?_
                intro g4 c4 w4 h4 hg4 _ _
                obtain ⟨pp, r0, r2, s4, s5⟩ := PP.out w3 a2 q2 g4 c4 w4 ho3 h4 hg4
                have HPP := hide pp
                have HS5 := hide s5
                clear pp s5 h4 hg4
                refine hK.out _ _ ?_ (fun hHeld => ?_)
                · exact s4
                clear hK K
                try simp only [Act.put, List.setIfInBounds_toArray, List.set_cons_zero, List.set_cons_succ]
                refine wpAnyH_take (i := 13) (v := ?vb12) rfl (by kernel_rfl) (by kernel_rfl) (by kernel_rfl) (fun _ _ _ h => h) (Or.inl ⟨by rfl, ?yb12⟩) (by assumption) ?rb12
                case yb12 => (intro w hSw; (try dsimp only at hSw); go_simp; try (with_reducible rfl))
                simp only [List.getElem_toArray, List.getElem_cons_succ, List.getElem_cons_zero, Act.put, List.setIfInBounds_toArray, List.set_cons_zero, List.set_cons_succ]
                refine wpAnyH_ready (rs := [14]) (by kernel_rfl) (by simp) ?_
                refine AllReadyH.cons rfl (fun K hK => ?_) AllReadyH.nil
                simp only [List.getElem_toArray, List.getElem_cons_succ, List.getElem_cons_zero]
                go_simp
                refine hK.out _ _ ?_ (fun hHeld => ?_)
                · exact HS5.out _
                clear hK K
                try simp only [Act.put, List.setIfInBounds_toArray, List.set_cons_zero, List.set_cons_succ]
                refine wpAnyH_done (by kernel_rfl) ?_ _
                clear PP CB CP hHeld r0 r2 s4 HS5
                go_wp2
                go_roundw
                case rel => exact ⟨nn + 1, by simp, HPP.out⟩
                case measure => simp [intOf]; omega
      · have hkb : ((k : Int) == 0) = false := by simp; omega
        have hfl : ¬ f < o := Int.not_lt.2 (HPk (by omega) hlt)
        have e1 : C.take (k + 1) = C.take k := by rw [List.take_of_length_le (by rw [HCL.out]; omega), List.take_of_length_le (by rw [HCL.out]; omega)]
        have hal := (Below.refl wr.heap.size wr).alloc (Nat.le_refl _) (.cells #[.int .i64 f, .string s, .slice ai m ci] 50 (0, 0))
        have HRR : Hid (CutInv w n K B C (k + 1) (wr.alloc (.cells #[.int .i64 f, .string s, .slice ai m ci] 50 (0, 0)))) := ⟨nn, M, a1, c1, by omega, by omega, HO.out.below hal, HP.out.trans e1.symm, (hal.block _ (by omega)).trans HB2.out, (hal.block _ (by omega)).trans HB1.out, BB.out.trans (hal.mono BB.out.size)⟩
        clear HRk HPk hal e1 hnn
        go_wp2
        go_roundw
        case rel => exact ⟨k + 1, by simp, HRR.out⟩
        case measure => simp [intOf]; omega
    · obtain rfl : k = n := by omega
      have hltI : ¬ (k : Int) < (k : Int) := by omega
      obtain rfl : nn = K + 1 := by omega
      clear hnn
      obtain ⟨z0, z1, z2, z3⟩ := blkp HB1.out
      obtain ⟨y0, y1, _, _⟩ := blkp HB2.out
      have HPL : Hid (pcs M = C) := by show pcs M = C; rw [HP.out]; exact List.take_of_length_le (by rw [HCL.out]; omega)
      have BB := hide hbel
      clear hbel
      go_wp2
      refine bodyPost_ret (v := .agg #[.slice a1 (K + 1) c1, .int .i64 B]) (by simp [results, Tryd.f52, go_sem, z0, z1]) rfl ⟨_, _, rfl, M, HPL.out, ?_, ?_⟩
      · have z : w.heap.size + 1 < w.heap.size + 3 := by omega
        exact ((HO.out.setC ⟨_, _, none⟩ _ z).setC ⟨_, _, none⟩ _ z).base (by omega)
      · exact (BB.out.setCell (p := ⟨_, _, none⟩) (by show w.heap.size ≤ w.heap.size + 1; omega) _).setCell (p := ⟨_, _, none⟩) (by show w.heap.size ≤ w.heap.size + 1; omega) _
end Go.Proofs.YtbcljhafdpnjbabDoor.L6

namespace Go.Proofs.YtbcljhafdpnjbabDoor.L6
open Go.RowKit L1
set_option linter.unusedVariables false

open Classical in
set_option maxRecDepth 100000 in
set_option maxHeartbeats 1000000 in
theorem specCut_any (a : Option Addr) (L : List Pc) (n cap : Nat) (B o : Int) (w : World) (hn : L.length = n) (hm : n ≤ 9223372036854775807) (hs : SlC w a L) (hst : SzC L) (L' : List Pc) (B' : Int) (ok : Bool) (hr : CutIs L B o L' B' ok) :
    Calls Tryd.prog 18 #[.agg #[.slice a n cap, .int .i64 B], .int .i64 o] w (RetK w L' B' ok) := by
  obtain ⟨bk, hbk⟩ : ∃ bk : Bool, bk = true ↔ GoodG L B := ⟨decide (GoodG L B), by simp⟩
  have C1 := hide (fun wx (hb : Below w.heap.size w wx) => specGoodLog_any a L n cap B wx hn hm (hs.below hb) hst bk hbk)
  have BX := hide (((Below.refl w.heap.size w).alloc (Nat.le_refl _) (.cells #[.slice a n cap, .int .i64 B] 25 (0, 0))).alloc (by simp) (.cells #[.slice none 0 0, .int .i64 0] 25 (0, 0)))
  cases bk with
  | false =>
    obtain ⟨rfl, rfl, rfl⟩ := hr.no (fun h => absurd (hbk.2 h.1) (by simp))
    clear hr hs hn hst hbk
    go_enter Tryd.func18, Tryd.ntmps18
    go_wp2_with fail
    refine (C1.out _ BX.out).mono ?_
    rintro e w1 ⟨rfl, hb1⟩
    obtain ⟨z0, z1, z2, z3⟩ := blkp ((hb1.block (w.heap.size + 1) (by simp)).trans (blk_secondC w _ _))
    have B1 := hide (BX.out.trans (hb1.mono BX.out.size))
    clear hb1
    go_wp2
    refine bodyPost_ret (v := .tuple #[.agg #[.slice none 0 0, .int .i64 0], .bool false]) (by simp [results, Tryd.f18, go_sem, z0, z1]) rfl (retK_none ((B1.out.setCell (p := ⟨_, _, none⟩) (Nat.le_succ _) _).setCell (p := ⟨_, _, none⟩) (Nat.le_succ _) _))
  | true =>
    have hg := hbk.1 rfl
    have hlast := hg.last hn
    have CE := hide (fun wx (hb : Below w.heap.size w wx) => l6End_good a L n cap B wx hn (hs.below hb) hg B)
    obtain ⟨E, hE⟩ : ∃ E, E = lastEnd L n := ⟨_, rfl⟩
    rw [← hE] at CE hlast
    by_cases hB : o < B
    · obtain ⟨rfl, rfl, rfl⟩ := hr.no (fun h => absurd h.2.1 (by omega))
      clear hr hs hn hst hbk hg hlast hE
      go_enter Tryd.func18, Tryd.ntmps18
      go_wp2_with fail
      refine (C1.out _ BX.out).mono ?_
      rintro e w1 ⟨rfl, hb1⟩
      have B1 := hide (BX.out.trans (hb1.mono BX.out.size))
      obtain ⟨z0, z1, z2, z3⟩ := blkp ((hb1.block (w.heap.size + 1) (by simp)).trans (blk_secondC w _ _))
      obtain ⟨k0, k1, _, _⟩ := blkp ((hb1.block w.heap.size (by simp only [World.size_alloc]; omega)).trans (blk_firstC w _ _))
      clear hb1
      go_wp2
      refine bodyPost_ret (v := .tuple #[.agg #[.slice none 0 0, .int .i64 0], .bool false]) (by simp [results, Tryd.f18, go_sem, z0, z1]) rfl (retK_none ((B1.out.setCell (p := ⟨_, _, none⟩) (Nat.le_succ _) _).setCell (p := ⟨_, _, none⟩) (Nat.le_succ _) _))
    · by_cases hO : E < o
      · obtain ⟨rfl, rfl, rfl⟩ := hr.no (fun h => absurd h.2.2 (by omega))
        clear hr hs hn hst hbk hg hlast hE
        go_enter Tryd.func18, Tryd.ntmps18
        go_wp2_with fail
        refine (C1.out _ BX.out).mono ?_
        rintro e w1 ⟨rfl, hb1⟩
        have B1 := hide (BX.out.trans (hb1.mono BX.out.size))
        have G1 : Hid (w1.heap[w.heap.size + 1]? = some (.cells #[.slice none 0 0, .int .i64 0] 25 (0, 0))) := (hb1.block (w.heap.size + 1) (by simp)).trans (blk_secondC w _ _)
        obtain ⟨k0, k1, _, _⟩ := blkp ((hb1.block w.heap.size (by simp only [World.size_alloc]; omega)).trans (blk_firstC w _ _))
        clear hb1
        go_wp2_with fail
        refine (CE.out _ B1.out).mono ?_
        rintro e w2 ⟨rfl, hb2⟩
        obtain ⟨z0, z1, z2, z3⟩ := blkp ((hb2.block (w.heap.size + 1) (Array.getElem?_eq_some_iff.1 G1.out).1).trans G1.out)
        have B2 := hide (B1.out.trans (hb2.mono B1.out.size))
        clear hb2 k0 k1
        go_wp2
        refine bodyPost_ret (v := .tuple #[.agg #[.slice none 0 0, .int .i64 0], .bool false]) (by simp [results, Tryd.f18, go_sem, z0, z1]) rfl (retK_none ((B2.out.setCell (p := ⟨_, _, none⟩) (Nat.le_succ _) _).setCell (p := ⟨_, _, none⟩) (Nat.le_succ _) _))
      · have hok : CutOk L B o := ⟨hg, by omega, by omega⟩
        obtain ⟨hL', hB', rfl⟩ := hr.yes hok
        have CC := hide (fun wx (hb : Below w.heap.size w wx) => l6Cut_any a L n cap B o wx hn (hs.below hb) hok)
        obtain ⟨N, hN⟩ : ∃ N, N = L'.length := ⟨_, rfl⟩
        rw [← hL', ← hN] at CC
        unfold RetK
        rw [← hN, hB']
        clear hr hs hn hst hbk hg hlast hE hok hL' hB' hN
        go_enter Tryd.func18, Tryd.ntmps18
        go_wp2_with fail
        refine (C1.out _ BX.out).mono ?_
        rintro e w1 ⟨rfl, hb1⟩
        have B1 := hide (BX.out.trans (hb1.mono BX.out.size))
        have G1 : Hid (w1.heap[w.heap.size + 1]? = some (.cells #[.slice none 0 0, .int .i64 0] 25 (0, 0))) := (hb1.block (w.heap.size + 1) (by simp)).trans (blk_secondC w _ _)
        obtain ⟨k0, k1, _, _⟩ := blkp ((hb1.block w.heap.size (by simp only [World.size_alloc]; omega)).trans (blk_firstC w _ _))
        clear hb1
        go_wp2_with fail
        refine (CE.out _ B1.out).mono ?_
        rintro e w2 ⟨rfl, hb2⟩
        have G2 := hide ((hb2.block (w.heap.size + 1) (Array.getElem?_eq_some_iff.1 G1.out).1).trans G1.out)
        have l0 := (hb2.cell (p := ⟨w.heap.size, 0, none⟩) (blk_lt k0)).trans k0
        have l1 := (hb2.cell (p := ⟨w.heap.size, 1, none⟩) (blk_lt k0)).trans k1
        have B2 := hide (B1.out.trans (hb2.mono B1.out.size))
        clear hb2 k0 k1 G1
        go_wp2_with fail
        refine (CC.out _ B2.out).mono ?_
        rintro e w3 ⟨a3, c3, rfl, M, hM, ho, hb3⟩
        have hz2 : w.heap.size + 1 < w2.heap.size := (Array.getElem?_eq_some_iff.1 G2.out).1
        obtain ⟨z0, z1, z2, z3⟩ := blkp ((hb3.block (w.heap.size + 1) hz2).trans G2.out)
        have B3 := hide (B2.out.trans (hb3.mono B2.out.size))
        have HO := hide ho
        have HM := hide hM
        clear hb3 l0 l1 ho hM
        go_wp2
        refine bodyPost_ret (v := .tuple #[.agg #[.slice a3 N c3, .int .i64 B], .bool true]) (by simp [results, Tryd.f18, go_sem, z0, z1]) rfl ⟨a3, c3, rfl, M, HM.out, ?_, ?_⟩
        · exact ((HO.out.setC ⟨w.heap.size + 1, 0, none⟩ _ hz2).setC ⟨w.heap.size + 1, 1, none⟩ _ hz2).base (by omega)
        · exact (B3.out.setCell (p := ⟨w.heap.size + 1, 0, none⟩) (Nat.le_succ _) _).setCell (p := ⟨w.heap.size + 1, 1, none⟩) (Nat.le_succ _) _
end Go.Proofs.YtbcljhafdpnjbabDoor.L6
