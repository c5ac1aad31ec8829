/-
  What TearEnd answers; logs that a call hands back.
  The table of the digits' worths. Nothing of the program's text is proved here.
  Contracts: impl.UnZigZag, and impl.GetVarint: of a text and a place the number whose digits stand there, and the place behind.
  Contract: impl.recordAt: the record that begins at a place of a text, and the place behind it.
  Contracts: impl.recordStarts (where whole records begin, and where the last one ends), impl.thinned (every third place).
  Contracts: impl.wholePiece (the piece of as many whole records as a text begins with), impl.endOfPiece.
  Contracts: slices.Equal at ints, impl.goodPiece.
  Contract: impl.goodPieces.
-/
import Derived.Test.YtbcljhafdpnjbabDoorBundle2
import Derived.Test.YtbcljhafdpnjbabDoorBundle1
import Derived.OwnWalk
import Derived.Test.YtbcljhafdpnjbabDoorBundle3
import Derived.Deep.RegionWith
import Derived.Deep.QuietTactic
import Derived.BigQuiet
namespace Go.Proofs.YtbcljhafdpnjbabDoor.L6
open Go.RowKit L1
set_option linter.unusedVariables false

/-- A log that a call hands back, in memory of its own, a number and whether there is one. -/
def RetG (w : World) (L : List Pc) (B left : Int) (ok : Bool) (e : Ending) (w' : World) : Prop :=
  ∃ a c, e = .returned (.tuple #[.agg #[.slice a L.length c, .int .i64 B], .int .i64 left, .bool ok]) ∧ ∃ M, pcs M = L ∧ OwC w' w.heap.size (.slice a L.length c) L.length M ∧ Below w.heap.size w w'
/-- The last piece's bytes without so many. -/
def tornS (p : Pc) (b : Int) : ByteArray := p.s.extract 0 (p.s.size - b.toNat)
def tornP (p : Pc) (b : Int) : Pc := ⟨p.f, (tornS p b).extract 0 (wh (tornS p b)), ix (tornS p b)⟩
abbrev lastP (L : List Pc) : Pc := gc L (L.length - 1)
def TearOk (L : List Pc) (B b : Int) : Prop := GoodG L B ∧ (0 ≤ b ∧ b ≤ ((lastP L).s.size : Int)) ∧ B ≤ (lastP L).f + (cnt (tornS (lastP L) b) : Int)
structure TearIs (L : List Pc) (B b : Int) (L' : List Pc) (B' left : Int) (ok : Bool) : Prop where
  yes : TearOk L B b → ok = true ∧ L' = L.set (L.length - 1) (tornP (lastP L) b) ∧ B' = B ∧ left = ((tornS (lastP L) b).size : Int) - (wh (tornS (lastP L) b) : Int)
  no : ¬ TearOk L B b → ok = false ∧ L' = [] ∧ B' = 0 ∧ left = 0
open Classical in
theorem tear_is (L : List Pc) (B b : Int) : ∃ L' B' left ok, TearIs L B b L' B' left ok := by
  by_cases h : TearOk L B b
  · exact ⟨_, _, _, true, fun _ => ⟨rfl, rfl, rfl, rfl⟩, fun h2 => absurd h h2⟩
  · exact ⟨_, _, _, false, fun h2 => absurd h2 h, fun _ => ⟨rfl, rfl, rfl, rfl⟩⟩
theorem own_nilC (w : World) (base : Nat) : OwC w base (.slice none 0 0) 0 [] := ⟨rfl, World.ownsRow_nil _ _ _ _, fun i hi => absurd hi (Nat.not_lt_zero _), fun i j _ hj => absurd hj (Nat.not_lt_zero _)⟩
theorem retG_none {w w' : World} (hb : Below w.heap.size w w') : RetG w [] 0 0 false (.returned (.tuple #[.agg #[.slice none 0 0, .int .i64 0], .int .i64 0, .bool false])) w' := ⟨_, _, rfl, [], rfl, own_nilC _ _, hb⟩
theorem tornP_size (p : Pc) (b : Int) : (tornS p b).size ≤ p.s.size := by unfold tornS; simp
/-- The piece that is recovered is good. -/
theorem tornP_good {p : Pc} (b : Int) (h : GoodP p) : GoodP (tornP p b) := by
  have h1 := tornP_size p b
  have h2 := h.1
  have h3 := wh_le (tornS p b)
  refine ⟨?_, ?_, ?_⟩
  · show ((tornS p b).extract 0 (wh (tornS p b))).size ≤ 60
    simp
    omega
  · show wh ((tornS p b).extract 0 (wh (tornS p b))) = _
    rw [whole_wh]
    show _ = ((tornS p b).extract 0 (wh (tornS p b))).size
    simp
    omega
  · exact (whole_ix (tornS p b)).symm
theorem tornP_cnt (p : Pc) (b : Int) : cnt (tornP p b).s = cnt (tornS p b) := whole_cnt _
theorem GoodG.small {L : List Pc} {B : Int} {n : Nat} (h : GoodG L B) (hn : L.length = n) : ∀ i, i < n → (gc L i).x.length ≤ 60 := fun i hi => by
  have hg := (h.ps i (by omega)).1
  have := good_cnt hg
  rw [hg.2.2]
  unfold ix
  rw [ixk_len]
  omega
end Go.Proofs.YtbcljhafdpnjbabDoor.L6

namespace Go.Proofs.YtbcljhafdpnjbabDoor.L1
open Go.RowKit
set_option linter.unusedVariables false

/-- The table of the digits' worths lies in memory as its initialiser lays it. -/
def Tab (w : World) : Prop := ∀ k : Nat, k < 6 → w.cell? ⟨0, k, none⟩ = some (.int .i64 (wor k))

theorem block_lt {w : World} {b o : Nat} {v : Value} (h : w.cell? ⟨b, o, none⟩ = some v) : b < w.heap.size := by
  by_cases hb : b < w.heap.size
  · exact hb
  · simp [World.cell?, Array.getElem?_eq_none (show w.heap.size ≤ b by omega)] at h
theorem Tab.below {w w' : World} (h : Tab w) (hb : Below w.heap.size w w') : Tab w' := fun k hk => by
  have hc := h k hk
  rw [hb.cell (p := ⟨0, k, none⟩) (block_lt hc)]
  exact hc
end Go.Proofs.YtbcljhafdpnjbabDoor.L1

namespace Go.Proofs.YtbcljhafdpnjbabDoor.L1
open Go.RowKit
set_option linter.unusedVariables false

def gvRes (a : Nat) : Option (List Int) → Value
  | none => .tuple #[.int .i64 0, .int .i64 0, .bool false]
  | some l => .tuple #[.int .i64 (zag (val l)), .int .i64 ((a + l.length : Nat) : Int), .bool true]

theorem gvRes_some {a k : Nat} {l : List Int} {v : Int} (hv : val l = v) (hl : l.length = k + 1) : gvRes a (some l) = .tuple #[.int .i64 (zag v), .int .i64 ((a : Int) + (k : Int) + 1), .bool true] := by
  subst hv
  simp only [gvRes, hl]
  congr 4

theorem tdiv_zag (z : Int) (h : 0 ≤ z) (h2 : z ≤ 2000000000000) (ho : z % 2 = 1) : wrap64 (-(z + 1).tdiv 2) = zag z := by
  unfold zag
  rw [if_pos ho, Int.tdiv_eq_ediv_of_nonneg (by omega)]
  unfold wrap64
  omega

set_option maxRecDepth 100000 in
set_option maxHeartbeats 400000 in
theorem unZigZag_yes (z : Int) (w : World) (h1 : 0 ≤ z) (h2 : z ≤ 2000000000000) :
    Calls Tryd.prog 77 #[.int .i64 z] w fun e w' => e = .returned (.tuple #[.int .i64 (zag z), .bool true]) ∧ w = w' := by
  by_cases h : z % 2 = 1
  · have e := tdiv_zag z h1 h2 h
    have E := hide e
    clear e
    go_enter Tryd.func77, Tryd.ntmps77
    go_wp2
    go_ret2
    rw [← E.out]
    exact ⟨rfl, rfl⟩
  · have e : zag z = z / 2 := by unfold zag; rw [if_neg h]
    rw [e]
    clear e
    go_enter Tryd.func77, Tryd.ntmps77
    go_wp2
    go_ret2
    exact ⟨rfl, rfl⟩
set_option maxRecDepth 100000 in
set_option maxHeartbeats 400000 in
theorem unZigZag_no (z : Int) (w : World) (h1 : 2000000000000 < z) :
    Calls Tryd.prog 77 #[.int .i64 z] w fun e w' => e = .returned (.tuple #[.int .i64 0, .bool false]) ∧ w = w' := by
  have h0 : ¬ z < 0 := by omega
  go_enter Tryd.func77, Tryd.ntmps77
  go_wp2
  go_ret2
  exact ⟨rfl, rfl⟩

set_option maxRecDepth 100000 in
set_option maxHeartbeats 400000 in
theorem getVarint_out (s : ByteArray) (a : Int) (w : World) (h : a < 0 ∨ (s.size : Int) ≤ a) :
    Calls Tryd.prog 66 #[.string s, .int .i64 a] w fun e w' => e = .returned (.tuple #[.int .i64 0, .int .i64 0, .bool false]) ∧ w = w' := by
  by_cases h0 : a < 0
  · clear h
    go_enter Tryd.func66, Tryd.ntmps66
    go_wp2
    go_ret3
    exact ⟨rfl, rfl⟩
  · have h1 : (s.size : Int) ≤ a := by omega
    clear h
    go_enter Tryd.func66, Tryd.ntmps66
    go_wp2
    go_ret3
    exact ⟨rfl, rfl⟩

set_option maxRecDepth 100000 in
set_option maxHeartbeats 1000000 in
theorem getVarint_any (s : ByteArray) (a : Nat) (w : World) (ha : a < s.size) (hs : s.size ≤ maxLen) (ht : Tab w) :
    Calls Tryd.prog 66 #[.string s, .int .i64 a] w fun e w' => e = .returned (gvRes a (gv (bts s a))) ∧ w = w' := by
  unfold maxLen at hs
  have hI : (a : Int) < (s.size : Int) := by omega
  have e1 : ¬ s.size ≤ a := by omega
  have e2 : ¬ (a : Int) < 0 := by omega
  have HT := hide ht
  clear ht
  have htl := hide (bts_len s a)
  go_enter Tryd.func66, Tryd.ntmps66
  go_wp2
  go_loop [7, 8] (fun z i => ∃ k : Nat, k ≤ 6 ∧ k ≤ s.size - a ∧ i = .int .i64 k ∧ z = .int .i64 (val ((bts s a).take k)) ∧ Hid (Hi ((bts s a).take k)) ∧ Hid (gv (bts s a) = gvf (6 - k) ((bts s a).take k) ((bts s a).drop k))) (fun _ i => 6 - (intOf i).toNat)
  case atStart => exact ⟨0, by omega, by omega, rfl, rfl, fun x hx => by simp at hx, rfl⟩
  case round =>
    obtain ⟨k, hk6, hkl, rfl, rfl, HH, HG⟩ := hrel
    by_cases h6 : k < 6
    · by_cases hl : k < s.size - a
      · have hlt : a + k < s.size := by omega
        have hb := bts_get s a k hlt
        have hbb := bts_byte s a k
        have hc := unhide HT k h6
        have hd := digit_bd ((bts s a).getD k 0) k (by omega)
        have hv := val_bd7 (bts s a) k (by rw [htl.out]; omega) (by omega)
        have h6I : (k : Int) < 6 := by omega
        have hlI : (k : Int) < (s.size : Int) - (a : Int) := by omega
        obtain ⟨b, hbe⟩ : ∃ b, b = (bts s a).getD k 0 := ⟨_, rfl⟩
        rw [← hbe] at hb hbb hd
        obtain ⟨v, hve⟩ : ∃ v, v = val ((bts s a).take k) := ⟨_, rfl⟩
        rw [← hve] at hv ⊢
        have HB := hide hbe
        have HV := hide hve
        obtain ⟨hb0, hb1⟩ := hbb
        obtain ⟨hd0, hd1⟩ := hd
        obtain ⟨hv0, hv1⟩ := hv
        have hb' := hb.symm
        clear hbe hve hb
        by_cases h128 : 128 ≤ b
        · go_wp2
          go_round
          case rel =>
            refine ⟨k + 1, by omega, by omega, by go_num, ?_, ?_, ?_⟩
            · rw [val_take _ _ (by rw [htl.out]; omega), ← HB.out, ← HV.out]
            · exact hi_take (by rw [htl.out]; omega) HH.out (by rw [← HB.out]; exact h128) (by rw [← HB.out]; exact hb1)
            · exact HG.out.trans (gvf_on (by rw [htl.out]; omega) h6 (by rw [← HB.out]; exact h128))
          case measure => simp [intOf]; omega
        · have hstop := gvf_stop (t := bts s a) (k := k) (by rw [htl.out]; omega) h6 (by rw [← HB.out]; omega)
          rw [← HG.out, val_take _ _ (by rw [htl.out]; omega), ← HB.out, ← HV.out] at hstop
          have hst : val ((bts s a).take (k + 1)) = v + b % 128 * wor k := by rw [val_take _ _ (by rw [htl.out]; omega), ← HB.out, ← HV.out]
          have hsl : ((bts s a).take (k + 1)).length = k + 1 := by rw [List.length_take, htl.out]; omega
          have ST := hide hstop
          have VT := hide hst
          have SL := hide hsl
          clear hstop hst hsl HH HG
          by_cases hz : v + b % 128 * wor k ≤ 2000000000000
          · by_cases hk0 : k = 0
            · have hkI : ¬ (0 : Int) < (k : Int) := by omega
              have HK := hide hk0
              clear hk0
              go_wp2_with (go_at_call 77; refine (unZigZag_yes _ _ (by omega) hz).mono ?_; rintro e w' ⟨rfl, rfl⟩)
              go_ret3
              rw [ST.out, if_pos ⟨hz, .inl HK.out⟩, gvRes_some VT.out SL.out]
              exact ⟨rfl, rfl⟩
            · have hkI : (0 : Int) < (k : Int) := by omega
              by_cases hb00 : (b == 0) = true
              · go_wp2_with (go_at_call 77; refine (unZigZag_yes _ _ (by omega) hz).mono ?_; rintro e w' ⟨rfl, rfl⟩)
                go_ret3
                rw [ST.out, if_neg (by have := eq_of_beq hb00; omega)]
                exact ⟨rfl, rfl⟩
              · go_wp2_with (go_at_call 77; refine (unZigZag_yes _ _ (by omega) hz).mono ?_; rintro e w' ⟨rfl, rfl⟩)
                go_ret3
                rw [ST.out, if_pos ⟨hz, .inr (by simpa using hb00)⟩, gvRes_some VT.out SL.out]
                exact ⟨rfl, rfl⟩
          · go_wp2_with (go_at_call 77; refine (unZigZag_no _ _ (by omega)).mono ?_; rintro e w' ⟨rfl, rfl⟩)
            go_ret3
            rw [ST.out, if_neg (by omega)]
            exact ⟨rfl, rfl⟩
      · have hend := gvf_end (t := bts s a) (k := k) (by rw [htl.out]; omega)
        rw [← HG.out] at hend
        have h6I : (k : Int) < 6 := by omega
        have hlI : ¬ (k : Int) < (s.size : Int) - (a : Int) := by omega
        have HE := hide hend
        clear hend
        go_wp2
        go_ret3
        rw [HE.out]
        exact ⟨rfl, rfl⟩
    · have hend := gvf_six (t := bts s a) (k := k) (by omega)
      rw [← HG.out] at hend
      have h6I : ¬ (k : Int) < 6 := by omega
      have HE := hide hend
      clear hend
      go_wp2
      go_ret3
      rw [HE.out]
      exact ⟨rfl, rfl⟩
end Go.Proofs.YtbcljhafdpnjbabDoor.L1

namespace Go.Proofs.YtbcljhafdpnjbabDoor.L6
open Go.RowKit L1
set_option linter.unusedVariables false

theorem slice_rec (w : World) (s : ByteArray) (c n : Nat) (h : c + n ≤ s.size) :
    (Instr.slice 9 (.string s) (some (.int .i64 (c : Int))) (some (.int .i64 ((c : Int) + (n : Int)))) none).run Tryd.prog w = .ok (.string (s.extract c (c + n))) w := by
  have h := run_slice_string (P := Tryd.prog) w 9 s .i64 .i64 (c : Int) ((c : Int) + (n : Int)) Tryd.underlying9 (by omega) (by omega) (by omega)
  rw [h]
  congr 4

set_option maxRecDepth 100000 in
set_option maxHeartbeats 1000000 in
theorem recordAt_none (s : ByteArray) (a : Nat) (w : World) (h : rc s a = none) (hs : s.size ≤ 1048576) (ht : Tab w) :
    Calls Tryd.prog 43 #[.string s, .int .i64 a] w fun e w' => e = .returned (.tuple #[.string ByteArray.empty, .int .i64 0, .bool false]) ∧ w = w' := by
  by_cases ha : a < s.size
  · have C := hide (getVarint_any s a w ha (by unfold maxLen; omega) ht)
    cases hg : gv (bts s a) with
    | none =>
      rw [hg] at C
      simp only [gvRes] at C
      clear hg ht h
      go_enter Tryd.func43, Tryd.ntmps43
      go_wp2_with fail
      refine C.out.mono ?_
      rintro e w1 ⟨rfl, rfl⟩
      go_wp2
      go_ret3
      exact ⟨rfl, rfl⟩
    | some l =>
      rw [hg] at C
      simp only [gvRes] at C
      have hf := gv_form (bts_mem s a) hg
      have hz := zag_lo (val l) (val_nonneg l) hf.2
      have hl := gv_some hg
      rw [bts_len] at hl
      have hno : ¬ (0 ≤ zag (val l) ∧ zag (val l) ≤ 20 ∧ zag (val l) ≤ (s.size : Int) - ((a + l.length : Nat) : Int)) := by
        intro hc
        unfold rc at h
        rw [hg] at h
        simp only [if_pos hc] at h
        cases h
      obtain ⟨z, hzz⟩ : ∃ z, z = zag (val l) := ⟨_, rfl⟩
      obtain ⟨e, hee⟩ : ∃ e, e = a + l.length := ⟨_, rfl⟩
      rw [← hzz] at C hz hno
      rw [← hee] at C hno
      have he : e ≤ s.size := by omega
      clear hg ht h hf hl hzz hee
      by_cases h1 : z < 0
      · go_enter Tryd.func43, Tryd.ntmps43
        go_wp2_with fail
        refine C.out.mono ?_
        rintro e w1 ⟨rfl, rfl⟩
        go_wp2
        go_ret3
        exact ⟨rfl, rfl⟩
      · by_cases h2 : (20 : Int) < z
        · go_enter Tryd.func43, Tryd.ntmps43
          go_wp2_with fail
          refine C.out.mono ?_
          rintro e w1 ⟨rfl, rfl⟩
          go_wp2
          go_ret3
          exact ⟨rfl, rfl⟩
        · have h3 : (s.size : Int) - (e : Int) < z := by omega
          clear hno
          go_enter Tryd.func43, Tryd.ntmps43
          go_wp2_with fail
          refine C.out.mono ?_
          rintro e w1 ⟨rfl, rfl⟩
          go_wp2
          go_ret3
          exact ⟨rfl, rfl⟩
  · have C := hide (getVarint_out s (a : Int) w (.inr (by omega)))
    clear h ht
    go_enter Tryd.func43, Tryd.ntmps43
    go_wp2_with fail
    refine C.out.mono ?_
    rintro e w1 ⟨rfl, rfl⟩
    go_wp2
    go_ret3
    exact ⟨rfl, rfl⟩

set_option maxRecDepth 100000 in
set_option maxHeartbeats 1000000 in
theorem recordAt_some (s : ByteArray) (a c n : Nat) (w : World) (h : rc s a = some (c, n)) (hs : s.size ≤ 1048576) (ht : Tab w) :
    Calls Tryd.prog 43 #[.string s, .int .i64 a] w fun e w' => e = .returned (.tuple #[.string (rtx s a), .int .i64 ((nx s a : Nat) : Int), .bool true]) ∧ w = w' := by
  obtain ⟨l, hg, hz, hc, hn, hle⟩ := rc_gv h
  have hl := gv_some hg
  rw [bts_len] at hl
  have C := hide (getVarint_any s a w (by omega) (by unfold maxLen; omega) ht)
  rw [hg] at C
  simp only [gvRes, hz, ← hc] at C
  rw [rtx_some h, nx_some h]
  have q := fun w => slice_rec w s c n hle
  have e1 : ((c + n : Nat) : Int) = (c : Int) + (n : Int) := by omega
  rw [e1]
  have h1 : ¬ (n : Int) < 0 := by omega
  have h2 : ¬ (20 : Int) < (n : Int) := by omega
  have h3 : ¬ (s.size : Int) - (c : Int) < (n : Int) := by omega
  clear hg hz hc hl ht h e1
  go_enter Tryd.func43, Tryd.ntmps43
  go_wp2_with fail
  refine C.out.mono ?_
  rintro e w1 ⟨rfl, rfl⟩
  go_wp2
  go_ret3
  exact ⟨rfl, rfl⟩
end Go.Proofs.YtbcljhafdpnjbabDoor.L6

namespace Go.Proofs.YtbcljhafdpnjbabDoor.L6
open Go.RowKit L1
set_option linter.unusedVariables false

set_option maxRecDepth 100000 in
set_option maxHeartbeats 2000000 in
theorem recordStarts_any (s : ByteArray) (w : World) (hs : s.size ≤ 1048576) (ht : Tab w) :
    Calls Tryd.prog 42 #[.string s] w fun e w' => ∃ v, e = .returned (.tuple #[v, .int .i64 (wh s : Nat)]) ∧ w'.ownsRow w.heap.size 3 1 v (cnt s) ((st s).map (Value.int .i64)) ∧ Below w.heap.size w w' := by
  obtain ⟨i0, hi, hz0, hz1, hz2⟩ := info_parts info_int
  have hcl := cnt_le s
  have HT := hide ht
  clear ht
  go_enter Tryd.func42, Tryd.ntmps42
  go_wp2
  go_loopw [4, 5] (fun o i wr => ∃ j : Nat, j ≤ cnt s ∧ i = .int .i64 (pl s 0 j : Nat) ∧ wr.ownsRow w.heap.size 3 1 o j ((stk s j).map (Value.int .i64)) ∧ Below w.heap.size w wr) (fun _ i _ => s.size - (intOf i).toNat)
  case atStart => exact ⟨0, by omega, rfl, World.ownsRow_nil _ _ _ _, Below.refl _ _⟩
  case round =>
    obtain ⟨j, hj, rfl, hown, hbel⟩ := hrel
    obtain ⟨b1, q1, rfl, _, _⟩ := own_form hown
    have hpl := pl_le s j
    by_cases hlt : j < cnt s
    · obtain ⟨c, n, hrc, hnx⟩ := cnt_rc s j hlt
      have hpl2 := pl_le s (j + 1)
      have hps := pl_lt s j hlt
      have hsk := stk_succ s j
      have C := hide (recordAt_some s (pl s 0 j) c n wr hrc hs (HT.out.below hbel))
      obtain ⟨t, htt⟩ : ∃ t, t = rtx s (pl s 0 j) := ⟨_, rfl⟩
      rw [← htt, show nx s (pl s 0 j) = pl s 0 (j + 1) from rfl] at C
      have HJ : Hid (pl s 0 (j + 1) = pl s 0 (j + 1)) := rfl
      obtain ⟨p, hp⟩ : ∃ p, p = pl s 0 j := ⟨_, rfl⟩
      obtain ⟨q, hq⟩ : ∃ q, q = pl s 0 (j + 1) := ⟨_, rfl⟩
      rw [← hp] at C hpl hps hsk
      rw [← hq] at C hpl2 hps
      rw [← hp]
      have HSK := hide hsk
      have HQ := hide hq
      have O := hide hown
      have B := hide hbel
      clear hrc hnx hsk hq hown hbel htt HJ
      have hp' := hide hp
      clear hp
      go_wp2_with fail
      refine C.out.mono ?_
      rintro e w1 ⟨rfl, rfl⟩
      go_wp2_with (first
        | (at_builtin; refine wpList_append_own _ rfl _ _ 48 rfl w.heap.size 3 i0 (.int .i64 0) 1 8 Tryd.underlying48 hi hz0 hz1 hz2 rfl (by decide) _ _ _ rfl (O.out.alloc _) ⟨wr.heap.size, 0, none⟩ 1 1 [.int .i64 (p : Int)] rfl rfl (cell_one_new _ _ _) (by intro u hu; simp at hu; subst hu; rfl) (by unfold maxLen; omega) (by omega) (by have := B.out.size; simp; omega) ?_)
        | go_in)
      intro v6 w6 h6 g6 _
      have hbase : w.heap.size ≤ (wr.alloc (.cells #[.int .i64 (p : Int)] 3)).heap.size := by have := B.out.size; simp; omega
      have O6 : w6.ownsRow w.heap.size 3 1 v6 (j + 1) ((stk s (j + 1)).map (Value.int .i64)) := by
        rw [HSK.out, List.map_append]
        exact h6
      have B6 := (B.out.alloc (Nat.le_trans B.out.size (Nat.le_refl _)) _).grown g6 hbase (fun k hk => (O.out.lt k hk).1)
      have HR := hide (And.intro O6 B6)
      obtain ⟨a6, c6, rfl, _, _⟩ := own_form O6
      clear h6 g6 O6 B6 hbase
      go_wp2
      go_roundw
      case rel => exact ⟨j + 1, by omega, by rw [HQ.out], HR.out⟩
      case measure => simp [intOf]; omega
    · obtain rfl : j = cnt s := by omega
      have hrc := cnt_no s
      have C := hide (recordAt_none s (pl s 0 (cnt s)) wr hrc hs (HT.out.below hbel))
      obtain ⟨p, hp⟩ : ∃ p, p = pl s 0 (cnt s) := ⟨_, rfl⟩
      rw [← hp] at C hpl
      rw [← hp]
      have E : Hid (wh s = p) := hp.symm
      have O := hide hown
      have B := hide hbel
      clear hrc hp hown hbel
      go_wp2_with fail
      refine C.out.mono ?_
      rintro e w1 ⟨rfl, rfl⟩
      go_wp2
      go_ret2
      exact ⟨_, by rw [E.out]; rfl, O.out, B.out⟩

set_option maxRecDepth 100000 in
set_option maxHeartbeats 2000000 in
theorem thinned_any (s : ByteArray) (a : Option Addr) (n cap : Nat) (w : World) (hn : cnt s = n) (hn2 : n ≤ 1048576) (hs : Sl w a (st s)) :
    Calls Tryd.prog 63 #[.slice a n cap] w fun e w' => ∃ v, e = .returned v ∧ w'.ownsRow w.heap.size 3 1 v (ix s).length ((ix s).map (Value.int .i64)) ∧ Below w.heap.size w w' := by
  obtain ⟨i0, hi, hz0, hz1, hz2⟩ := info_parts info_int
  have HS := hide hs
  have HN := hide hn
  clear hs hn
  go_enter Tryd.func63, Tryd.ntmps63
  go_wp2
  go_loopw [3, 4] (fun o i wr => ∃ j : Nat, j ≤ (n + 2) / 3 ∧ i = .int .i64 ((3 * j : Nat) : Int) ∧ wr.ownsRow w.heap.size 3 1 o j ((ixk s j).map (Value.int .i64)) ∧ Below w.heap.size w wr) (fun _ i _ => n + 3 - (intOf i).toNat)
  case atStart => exact ⟨0, by omega, rfl, World.ownsRow_nil _ _ _ _, Below.refl _ _⟩
  case round =>
    obtain ⟨j, hj, rfl, hown, hbel⟩ := hrel
    obtain ⟨b1, q1, rfl, _, _⟩ := own_form hown
    by_cases hlt : 3 * j < n
    · obtain ⟨b, off, rfl, hc0⟩ := HS.out (3 * j) (by rw [stk_len, HN.out]; exact hlt)
      have hc := (hbel.cell (p := ⟨b, off + 3 * j, none⟩) (blk_lt hc0)).trans hc0
      rw [stk_get s (cnt s) (3 * j) (by rw [HN.out]; exact hlt)] at hc
      have hsk := ixk_succ s j
      obtain ⟨p, hp⟩ : ∃ p : Int, p = (pl s 0 (3 * j) : Int) := ⟨_, rfl⟩
      rw [← hp] at hc hsk
      obtain ⟨d, hd⟩ : ∃ d, d = 3 * j := ⟨_, rfl⟩
      rw [← hd] at hc ⊢
      have hltI : (d : Int) < (n : Int) := by omega
      have hd0 : (0 : Int) ≤ (d : Int) := by omega
      have HSK := hide hsk
      have HD := hide hd
      have O := hide hown
      have B := hide hbel
      clear hsk hd hown hbel hp hc0
      go_wp2_with (first
        | (at_builtin; refine wpList_append_own _ rfl _ _ 48 rfl w.heap.size 3 i0 (.int .i64 0) 1 8 Tryd.underlying48 hi hz0 hz1 hz2 rfl (by decide) _ _ _ rfl (O.out.alloc _) ⟨wr.heap.size, 0, none⟩ 1 1 [.int .i64 p] rfl rfl (cell_one_new _ _ _) (by intro u hu; simp at hu; subst hu; rfl) (by unfold maxLen; omega) (by omega) (by have := B.out.size; simp; omega) ?_)
        | go_in)
      intro v6 w6 h6 g6 _
      have hbase : w.heap.size ≤ (wr.alloc (.cells #[.int .i64 p] 3)).heap.size := by have := B.out.size; simp; omega
      have O6 : w6.ownsRow w.heap.size 3 1 v6 (j + 1) ((ixk s (j + 1)).map (Value.int .i64)) := by
        rw [HSK.out, List.map_append]
        exact h6
      have B6 := (B.out.alloc (Nat.le_trans B.out.size (Nat.le_refl _)) _).grown g6 hbase (fun k hk => (O.out.lt k hk).1)
      have HR := hide (And.intro O6 B6)
      obtain ⟨a6, c6, rfl, _, _⟩ := own_form O6
      clear h6 g6 O6 B6 hbase
      go_wp2
      go_roundw
      case rel => exact ⟨j + 1, by have := HD.out; omega, by rw [show ((3 * (j + 1) : Nat) : Int) = (d : Int) + 3 by have := HD.out; omega], HR.out⟩
      case measure => simp [intOf]; omega
    · have hjj : j = (n + 2) / 3 := by omega
      obtain ⟨d, hd⟩ : ∃ d, d = 3 * j := ⟨_, rfl⟩
      rw [← hd]
      have hltI : ¬ (d : Int) < (n : Int) := by omega
      have E : ixk s j = ix s := by unfold ix; rw [HN.out, hjj]
      have E2 : (ix s).length = j := by rw [← E, ixk_len]
      have O := hide hown
      rw [E] at O
      have HE := hide E2
      clear E E2 hown hd hjj
      go_wp2
      go_ret
      exact ⟨_, rfl, by rw [HE.out]; exact O.out, hbel⟩
end Go.Proofs.YtbcljhafdpnjbabDoor.L6

namespace Go.Proofs.YtbcljhafdpnjbabDoor.L6
open Go.RowKit L1
set_option linter.unusedVariables false

set_option maxRecDepth 100000 in
set_option maxHeartbeats 2000000 in
theorem wholePiece_any (f : Int) (s : ByteArray) (w : World) (hs : s.size ≤ 1048576) (ht : Tab w) :
    Calls Tryd.prog 36 #[.int .i64 f, .string s] w fun e w' => ∃ v, e = .returned (.agg #[.int .i64 f, .string (s.extract 0 (wh s)), v]) ∧ w'.ownsRow w.heap.size 3 1 v (ix s).length ((ix s).map (Value.int .i64)) ∧ Below w.heap.size w w' := by
  obtain ⟨N, hN⟩ : ∃ N, N = (ix s).length := ⟨_, rfl⟩
  rw [← hN]
  have C1 := hide (fun w ht => recordStarts_any s w hs ht)
  have HT := hide ht
  have q := fun w => slice_to w s (wh s) (wh_le s)
  have hcl := cnt_le s
  obtain ⟨m, hm⟩ : ∃ m, m = cnt s := ⟨_, rfl⟩
  have C2 := hide (fun a cap w hs => thinned_any s a m cap w hm.symm (by omega) hs)
  rw [← hm] at C1
  obtain ⟨y, hy⟩ : ∃ y, y = s.extract 0 (wh s) := ⟨_, rfl⟩
  rw [← hy] at q ⊢
  obtain ⟨k, hk⟩ : ∃ k, k = wh s := ⟨_, rfl⟩
  rw [← hk] at C1 q
  clear hy hk ht hm
  go_enter Tryd.func36, Tryd.ntmps36
  go_wp2_with fail
  refine (C1.out _ (HT.out.below ((Below.refl _ _).alloc (Nat.le_refl _) _))).mono ?_
  rintro e w1 ⟨v1, rfl, ho1, hb1⟩
  obtain ⟨a1, q1, rfl, s1, _⟩ := own_form ho1
  have G1 : w1.heap[w.heap.size]? = some (.cells #[.int .i64 0, .string ByteArray.empty, .slice none 0 0] 50 (0, 0)) := (hb1.block w.heap.size (by simp)).trans (blk_new _ _)
  have B1 := hide (((Below.refl w.heap.size w).alloc (Nat.le_refl _) (.cells #[.int .i64 0, .string ByteArray.empty, .slice none 0 0] 50 (0, 0))).trans (hb1.mono (by simp)))
  have C3 := hide (fun wx (hb : Below w1.heap.size w1 wx) => (C2.out a1 q1 wx (s1.below hb)).mono (R' := fun e w2 => ∃ a2 q2, e = .returned (.slice a2 N q2) ∧ (w2.ownsRow w1.heap.size 3 1 (.slice a2 N q2) N ((ix s).map (Value.int .i64)) ∧ Below w1.heap.size w1 w2) ∧ (w2.cell? ⟨w.heap.size, 0, none⟩ = some (.int .i64 0) ∧ w2.cell? ⟨w.heap.size, 1, none⟩ = some (.string ByteArray.empty) ∧ w2.cell? ⟨w.heap.size, 2, none⟩ = some (.slice none 0 0) ∧ w2.frozen? ⟨w.heap.size, 0, none⟩ = false ∧ w2.frozen? ⟨w.heap.size, 1, none⟩ = false ∧ w2.frozen? ⟨w.heap.size, 2, none⟩ = false)) (by
    rintro e w2 ⟨v2, rfl, ho2, hb2⟩
    have hb3 := hb.trans (hb2.mono hb.size)
    rw [← hN] at ho2
    obtain ⟨a2, q2, rfl, _, _⟩ := own_form ho2
    exact ⟨a2, q2, rfl, ⟨own_baseC ho2 hb.size, hb3⟩, blk3 ((hb3.block w.heap.size (Array.getElem?_eq_some_iff.1 G1).1).trans G1)⟩))
  have hlt : w.heap.size < w1.heap.size := (Array.getElem?_eq_some_iff.1 G1).1
  clear ho1 hb1 G1 s1 C2 hN
  go_wp2
  go_region_with (go_at_call 63; refine (C3.out _ ?_).mono ?_; (first | exact Below.refl _ _ | exact (Below.refl _ _).drew | exact ((Below.refl _ _).drew).drew); rintro e w2 ⟨a2, q2, rfl, ho2, c0, c1, c2, c3, c4, c5⟩)
  have H2 := hide ho2
  clear ho2
  go_wp2
  refine bodyPost_ret (v := .agg #[.int .i64 f, .string y, .slice a2 N q2]) (by simp [results, Tryd.f36, go_sem, c0, c1, c2]) rfl ⟨_, rfl, ?_, ?_⟩
  · exact own_setC (own_setC (own_setC (own_baseC H2.out.1 (Nat.le_refl _)) ⟨_, _, none⟩ _ hlt) ⟨_, _, none⟩ _ hlt) ⟨_, _, none⟩ _ hlt |> fun h => own_baseC h (Nat.le_of_lt hlt)
  · exact (((B1.out.trans (H2.out.2.mono B1.out.size)).setCell (p := ⟨_, _, none⟩) (Nat.le_refl _) _).setCell (p := ⟨_, _, none⟩) (Nat.le_refl _) _).setCell (p := ⟨_, _, none⟩) (Nat.le_refl _) _

set_option maxRecDepth 100000 in
set_option maxHeartbeats 1000000 in
theorem endOfPiece_any (f : Int) (s : ByteArray) (a : Option Addr) (m q : Nat) (w : World) (hs : s.size ≤ 1048576) (h1 : -1000000000000 ≤ f) (h2 : f ≤ 1000000000000) (ht : Tab w) :
    Calls Tryd.prog 46 #[.agg #[.int .i64 f, .string s, .slice a m q]] w fun e w' => e = .returned (.int .i64 (f + (cnt s : Int))) ∧ Below w.heap.size w w' := by
  have C1 := hide (fun w ht => recordStarts_any s w hs ht)
  have hcl := cnt_le s
  obtain ⟨n, hn⟩ : ∃ n, n = cnt s := ⟨_, rfl⟩
  rw [← hn] at C1 hcl ⊢
  obtain ⟨k, hk⟩ : ∃ k, k = wh s := ⟨_, rfl⟩
  rw [← hk] at C1
  have HT := hide ht
  clear hk ht hn
  go_enter Tryd.func46, Tryd.ntmps46
  go_wp2_with fail
  refine (C1.out _ (HT.out.below ((Below.refl _ _).alloc (Nat.le_refl _) _))).mono ?_
  rintro e w1 ⟨v1, rfl, ho1, hb1⟩
  obtain ⟨a1, q1, rfl, s1, _⟩ := own_form ho1
  have G1 : w1.heap[w.heap.size]? = some (.cells #[.int .i64 f, .string s, .slice a m q] 50 (0, 0)) := (hb1.block w.heap.size (by simp)).trans (blk_new _ _)
  obtain ⟨c0, c1, c2, _, _, _⟩ := blk3 G1
  have B1 := hide (((Below.refl w.heap.size w).alloc (Nat.le_refl _) (.cells #[.int .i64 f, .string s, .slice a m q] 50 (0, 0))).trans (hb1.mono (by simp)))
  clear ho1 hb1 G1 s1
  go_wp2
  go_ret
  exact ⟨rfl, B1.out⟩
end Go.Proofs.YtbcljhafdpnjbabDoor.L6

namespace Go.Proofs.YtbcljhafdpnjbabDoor.L6
open Go.RowKit L1
set_option linter.unusedVariables false

set_option maxRecDepth 100000 in
set_option maxHeartbeats 1000000 in
theorem equal_any (a b : Option Addr) (xs ys : List Int) (n m c1 c2 : Nat) (w : World) (hn : xs.length = n) (hm : ys.length = m) (ha : Sl w a xs) (hb : Sl w b ys) (hn2 : n ≤ 9223372036854775807) (hm2 : m ≤ 9223372036854775807) (bb : Bool) (hbb : bb = true ↔ xs = ys) :
    Calls Tryd.prog 78 #[.slice a n c1, .slice b m c2] w fun e w' => e = .returned (.bool bb) ∧ Below w.heap.size w w' := by
  have HA := hide ha
  have HB := hide hb
  have HN := hide hn
  have HM := hide hm
  have HBB := hide hbb
  clear ha hb hn hm hbb
  by_cases hnm : n = m
  · subst hnm
    go_enter Tryd.func78, Tryd.ntmps78
    go_wp2
    go_loopw [13] (fun i wr => ∃ k : Nat, k ≤ n ∧ i = .int .i64 k ∧ Hid (∀ j, j < k → xs.getD j 0 = ys.getD j 0) ∧ Below w.heap.size w wr) (fun i _ => n - (intOf i).toNat)
    case atStart => exact ⟨0, Nat.zero_le _, rfl, fun j hj => absurd hj (Nat.not_lt_zero _), Below.refl _ _⟩
    case round =>
      obtain ⟨k, hk, rfl, HK, hbel⟩ := hrel
      by_cases hlt : k < n
      · obtain ⟨b1, o1, rfl, h1⟩ := HA.out k (by rw [HN.out]; exact hlt)
        obtain ⟨b2, o2, rfl, h2⟩ := HB.out k (by rw [HM.out]; exact hlt)
        have g1 := (hbel.cell (p := ⟨b1, o1 + k, none⟩) (blk_lt h1)).trans h1
        have g2 := (hbel.cell (p := ⟨b2, o2 + k, none⟩) (blk_lt h2)).trans h2
        obtain ⟨x, hx⟩ : ∃ x, x = xs.getD k 0 := ⟨_, rfl⟩
        obtain ⟨y, hy⟩ : ∃ y, y = ys.getD k 0 := ⟨_, rfl⟩
        rw [← hx] at g1
        rw [← hy] at g2
        have hltI : (k : Int) < (n : Int) := by omega
        clear h1 h2
        by_cases hxy : x = y
        · have HK2 : Hid (∀ j, j < k + 1 → xs.getD j 0 = ys.getD j 0) := fun j hj => by
            by_cases e : j = k
            · subst e; rw [← hx, ← hy, hxy]
            · exact HK.out j (by omega)
          clear hx hy
          subst hxy
          go_wp2
          go_quiet (fail)
          go_wp2
          go_roundw
          case rel => exact ⟨k + 1, by omega, by go_num, HK2.out, below_drewN hbel _⟩
          case measure => simp [intOf]; omega
        · have hE : bb = false := by
            cases bb with
            | false => rfl
            | true =>
              have := HBB.out.1 rfl
              exact absurd (by rw [hx, hy, this]) hxy
          subst hE
          clear hx hy
          go_wp2
          go_quiet (fail)
          go_wp2
          go_ret
          exact ⟨rfl, below_drewN hbel _⟩
      · obtain rfl : k = n := by omega
        have hltI : ¬ (k : Int) < (k : Int) := by omega
        have hE : bb = true := HBB.out.2 (list_same HM.out HN.out (fun j hj => HK.out j hj))
        subst hE
        go_wp2
        go_ret
        exact ⟨rfl, hbel⟩
  · have hE : bb = false := by
      cases bb with
      | false => rfl
      | true =>
        have := HBB.out.1 rfl
        have h1 := HN.out
        rw [this, HM.out] at h1
        exact absurd h1.symm hnm
    subst hE
    have hI : ¬ (n : Int) = (m : Int) := by omega
    go_enter Tryd.func78, Tryd.ntmps78
    go_wp2
    go_ret
    exact ⟨rfl, Below.refl _ _⟩

theorem extract_ne (s : ByteArray) (k : Nat) (h : k < s.size) : s.extract 0 k ≠ s := fun e => by
  have := congrArg ByteArray.size e
  simp at this
  omega

set_option maxRecDepth 100000 in
set_option maxHeartbeats 1000000 in
theorem goodPiece_any (f : Int) (s : ByteArray) (a : Option Addr) (xs : List Int) (n q : Nat) (w : World) (hn : xs.length = n) (ha : Sl w a xs) (hn2 : n ≤ 9223372036854775807) (hs : s.size ≤ 9223372036854775807) (ht : Tab w) (bb : Bool) (hbb : bb = true ↔ GoodP ⟨f, s, xs⟩) :
    Calls Tryd.prog 68 #[.agg #[.int .i64 f, .string s, .slice a n q]] w fun e w' => e = .returned (.bool bb) ∧ Below w.heap.size w w' := by
  by_cases h60 : (60 : Int) < (s.size : Int)
  · have hE : bb = false := by
      cases bb with
      | false => rfl
      | true =>
        have := (hbb.1 rfl).1
        simp only at this
        omega
    subst hE
    clear hbb ha hn ht
    go_enter Tryd.func68, Tryd.ntmps68
    go_wp2
    go_ret
    exact ⟨rfl, (Below.refl _ _).alloc (Nat.le_refl _) _⟩
  · have C1 := hide (fun w ht => wholePiece_any f s w (by omega) ht)
    have hw := wh_le s
    have HT := hide ht
    have HA := hide ha
    obtain ⟨y, hy⟩ : ∃ y, y = s.extract 0 (wh s) := ⟨_, rfl⟩
    rw [← hy] at C1
    obtain ⟨l, hl⟩ : ∃ l, l = ix s := ⟨_, rfl⟩
    rw [← hl] at C1
    obtain ⟨m, hm⟩ : ∃ m, m = l.length := ⟨_, rfl⟩
    have hm2 : m ≤ 1048576 := by
      rw [hm, hl]
      unfold ix
      rw [ixk_len]
      have := cnt_le s
      omega
    rw [← hm] at C1
    have C2 := hide (fun a1 b1 c1 w h1 h2 bb hbb => equal_any a1 b1 l xs m n c1 q w hm.symm hn h1 h2 (by omega) hn2 bb hbb)
    by_cases hws : wh s = s.size
    · have hys : y = s := by rw [hy, hws]; exact extract_all s
      have hbb2 : bb = true ↔ l = xs := by
        rw [hbb, hl]
        constructor
        · exact fun h => h.2.2.symm
        · exact fun h => ⟨by simp only; omega, hws, h.symm⟩
      have HBB := hide hbb2
      clear hbb hbb2 hy ht ha hn hl hm hws
      subst hys
      go_enter Tryd.func68, Tryd.ntmps68
      go_wp2_with fail
      refine (C1.out _ (HT.out.below ((Below.refl _ _).alloc (Nat.le_refl _) _))).mono ?_
      rintro e w1 ⟨v1, rfl, ho1, hb1⟩
      obtain ⟨a1, q1, rfl, s1, _⟩ := own_form ho1
      have G1 : w1.heap[w.heap.size]? = some (.cells #[.int .i64 f, .string y, .slice a n q] 50 (0, 0)) := (hb1.block w.heap.size (by simp)).trans (blk_new _ _)
      obtain ⟨c0, c1, c2, _, _, _⟩ := blk3 G1
      have hb0 : Below w.heap.size w w1 := ((Below.refl w.heap.size w).alloc (Nat.le_refl _) (.cells #[.int .i64 f, .string y, .slice a n q] 50 (0, 0))).trans (hb1.mono (by simp))
      have hlt : w.heap.size < w1.heap.size := (Array.getElem?_eq_some_iff.1 G1).1
      have k0 : ∀ ob, (w1.alloc ob).cell? ⟨w.heap.size, 1, none⟩ = some (.string y) := fun ob => Go.Lib.cell?_alloc_some ob c1
      have k1 : ∀ ob, (w1.alloc ob).cell? ⟨w.heap.size, 2, none⟩ = some (.slice a n q) := fun ob => Go.Lib.cell?_alloc_some ob c2
      have HS1 := hide s1
      have SA := hide (HA.out.below hb0)
      have B1 := hide hb0
      clear ho1 hb1 G1 s1 hb0
      go_wp2_with fail
      refine (C2.out _ _ _ _ (HS1.out.below ((Below.refl _ _).alloc (Nat.le_refl _) _)) (SA.out.below ((Below.refl _ _).alloc (Nat.le_refl _) _)) bb HBB.out).mono ?_
      rintro e w2 ⟨rfl, hb2⟩
      have B2 := hide ((B1.out.alloc B1.out.size _).trans (hb2.mono (by have := B1.out.size; simp; omega)))
      clear hb2
      go_wp2
      go_ret
      exact ⟨rfl, B2.out⟩
    · have hE : bb = false := by
        cases bb with
        | false => rfl
        | true => exact absurd (hbb.1 rfl).2.1 hws
      have hne : ¬ y.toList = s.toList := fun e => extract_ne s (wh s) (by omega) (by rw [← hy]; exact toList_inj e)
      subst hE
      clear hbb hy ht ha hn hl hm hws C2
      go_enter Tryd.func68, Tryd.ntmps68
      go_wp2_with fail
      refine (C1.out _ (HT.out.below ((Below.refl _ _).alloc (Nat.le_refl _) _))).mono ?_
      rintro e w1 ⟨v1, rfl, ho1, hb1⟩
      obtain ⟨a1, q1, rfl, s1, _⟩ := own_form ho1
      have G1 : w1.heap[w.heap.size]? = some (.cells #[.int .i64 f, .string s, .slice a n q] 50 (0, 0)) := (hb1.block w.heap.size (by simp)).trans (blk_new _ _)
      obtain ⟨c0, c1, c2, _, _, _⟩ := blk3 G1
      have hb0 : Below w.heap.size w w1 := ((Below.refl w.heap.size w).alloc (Nat.le_refl _) (.cells #[.int .i64 f, .string s, .slice a n q] 50 (0, 0))).trans (hb1.mono (by simp))
      have hlt : w.heap.size < w1.heap.size := (Array.getElem?_eq_some_iff.1 G1).1
      have k0 : ∀ ob, (w1.alloc ob).cell? ⟨w.heap.size, 1, none⟩ = some (.string s) := fun ob => Go.Lib.cell?_alloc_some ob c1
      have B1 := hide hb0
      clear ho1 hb1 G1 s1 hb0
      go_wp2
      go_ret
      exact ⟨rfl, B1.out.alloc B1.out.size _⟩
end Go.Proofs.YtbcljhafdpnjbabDoor.L6

namespace Go.Proofs.YtbcljhafdpnjbabDoor.L6
open Go.RowKit L1
set_option linter.unusedVariables false

theorem ba_nil6 {n : ByteArray} : n.toList = [] ↔ n.size = 0 := by
  constructor
  · intro h
    have h2 : n = ByteArray.empty := by
      apply ByteArray.ext
      apply Array.toList_inj.1
      rw [← ByteArray.toList_eq, h]
      rfl
    rw [h2]; rfl
  · intro h
    rw [ByteArray.toList_eq]
    exact List.eq_nil_of_length_eq_zero (by simpa using h)

open Classical in
set_option maxRecDepth 100000 in
set_option maxHeartbeats 4000000 in
theorem goodPieces_any (a : Option Addr) (L : List Pc) (n cap : Nat) (w : World) (hn : L.length = n) (h1 : 1 ≤ n) (h20 : n ≤ 20) (hs : SlC w a L) (hst : TxC L) (hf0 : 0 ≤ (gc L 0).f) (hf1 : (gc L 0).f ≤ 100000) (ht : Tab w) (bb : Bool) (hbb : bb = true ↔ GoodPs L) :
    Calls Tryd.prog 45 #[.slice a n cap] w fun e w' => e = .returned (.bool bb) ∧ Below w.heap.size w w' := by
  have HS := hide hs
  have HN := hide hn
  have HST := hide hst
  have HT := hide ht
  have HBB := hide hbb
  have HF0 := hide hf0
  have HF1 := hide hf1
  obtain ⟨b0, off0, rfl, a0, c0, hat0⟩ := hs 0 (by rw [hn]; exact h1)
  have hk0 := hat0.f
  rw [Nat.zero_mul, Nat.add_zero] at hk0
  obtain ⟨f0, hff0⟩ : ∃ f0, f0 = (gc L 0).f := ⟨_, rfl⟩
  rw [show (L.getD 0 eC).f = f0 from hff0.symm] at hk0
  have HFF := hide hff0
  clear hs hn hst ht hbb hat0 hf0 hf1 hff0
  go_enter Tryd.func45, Tryd.ntmps45
  go_wp2
  go_loopw [4, 16] (fun t i wr => ∃ k : Nat, k ≤ n ∧ i = .int .i64 k ∧ t = .int .i64 (atg L k) ∧ Hid (∀ j, j < k → OkC L j) ∧ Below w.heap.size w wr) (fun _ i _ => n - (intOf i).toNat)
  case atStart => exact ⟨0, Nat.zero_le _, rfl, by rw [HFF.out]; rfl, fun j hj => absurd hj (Nat.not_lt_zero _), Below.refl _ _⟩
  case round =>
    obtain ⟨k, hk, rfl, rfl, HK, hbel⟩ := hrel
    by_cases hlt : k < n
    · obtain ⟨b, off, hab, ai, ci, hat⟩ := HS.out.below hbel k (by rw [HN.out]; exact hlt)
      cases hab
      have hltI : (k : Int) < (n : Int) := by omega
      have hsx := HST.out k (by rw [HN.out]; exact hlt)
      have hgb := atg_bd L k (fun j hj => (HK.out j hj).1)
      have hok : bb = true → OkC L k := fun h => HBB.out.1 h k (by rw [HN.out]; exact hlt)
      have hnext : atg L (k + 1) = atg L k + (cnt (gc L k).s : Int) := rfl
      have hstep : OkC L k → ∀ j, j < k + 1 → OkC L j := fun h j hj => by
        by_cases e : j = k
        · subst e; exact h
        · exact HK.out j (by omega)
      have hOk : OkC L k ↔ GoodP (gc L k) ∧ (gc L k).f = atg L k ∧ (k + 1 < n → cnt (gc L k).s ≠ 0) := by unfold OkC; rw [HN.out]
      have hd1 := hat.f
      have hd2 := hat.s
      have hd3 := hat.x
      have hd4 := hat.l
      obtain ⟨p, hp⟩ : ∃ p, p = gc L k := ⟨_, rfl⟩
      rw [show L.getD k eC = p from hp.symm] at hd1 hd2 hd3 hd4 hsx
      rw [← hp] at hnext hOk
      obtain ⟨f, s, x⟩ := p
      simp only at hd1 hd2 hd3 hd4 hsx hnext hOk
      obtain ⟨m, hm⟩ : ∃ m, m = x.length := ⟨_, rfl⟩
      rw [← hm] at hd3 hsx
      obtain ⟨t, htt⟩ : ∃ t, t = atg L k := ⟨_, rfl⟩
      rw [← htt] at hnext hOk hgb ⊢
      have hgb2 : 0 ≤ t ∧ t ≤ 101200 := by have h1 := HF0.out; have h2 := HF1.out; omega
      have HD4 := hide hd4
      have HNX := hide hnext
      have HST2 := hide hstep
      have HOK := hide hOk
      have HOK0 := hide hok
      have B0 := hide hbel
      have HM := hide hm.symm
      clear hat hp hm htt hgb hnext hstep hOk hok hd4 hbel
      by_cases hft : f = t
      · subst hft
        obtain ⟨bk, hbk⟩ : ∃ bk : Bool, bk = true ↔ GoodP ⟨f, s, x⟩ := ⟨decide (GoodP ⟨f, s, x⟩), by simp⟩
        have C1 := hide (fun w ha ht => goodPiece_any f s ai x m ci w HM.out ha hsx.2 hsx.1 ht bk hbk)
        have HBK := hide hbk
        clear hbk hsx
        cases bk with
        | false =>
          have hE : bb = false := by
            cases bb with
            | false => rfl
            | true => exact absurd (HBK.out.2 (HOK.out.1 (HOK0.out rfl)).1) (by simp)
          subst hE
          go_wp2_with fail
          refine (C1.out _ (HD4.out.below ((Below.refl _ _).alloc (Nat.le_refl _) _)) (HT.out.below ((B0.out.alloc B0.out.size _)))).mono ?_
          rintro e w1 ⟨rfl, hb1⟩
          have B1 := hide ((B0.out.alloc B0.out.size (.cells #[.int .i64 f, .string s, .slice ai m ci] 50 (0, 0))).trans (hb1.mono (by have := B0.out.size; simp; omega)))
          have G1 : w1.heap[wr.heap.size]? = some (.cells #[.int .i64 f, .string s, .slice ai m ci] 50 (0, 0)) := (hb1.block wr.heap.size (by simp)).trans (blk_new _ _)
          obtain ⟨c0, c1, c2, _, _, _⟩ := blk3 G1
          clear hb1 G1
          go_wp2
          go_ret
          exact ⟨rfl, B1.out⟩
        | true =>
          have hgp := HBK.out.1 rfl
          have hcs := good_empty hgp
          have hc60 := good_cnt hgp
          have hs60 := hgp.1
          simp only at hcs hc60 hs60
          by_cases hem : (k : Int) < (n : Int) - 1 ∧ s.toList = []
          · obtain ⟨hem1, hem2⟩ := hem
            have hE : bb = false := by
              cases bb with
              | false => rfl
              | true =>
                have h3 := (HOK.out.1 (HOK0.out rfl)).2.2 (by omega)
                exact absurd (hcs.2 (ba_nil6.1 hem2)) h3
            subst hE
            clear hgp hcs
            go_wp2_with fail
            refine (C1.out _ (HD4.out.below ((Below.refl _ _).alloc (Nat.le_refl _) _)) (HT.out.below ((B0.out.alloc B0.out.size _)))).mono ?_
            rintro e w1 ⟨rfl, hb1⟩
            have B1 := hide ((B0.out.alloc B0.out.size (.cells #[.int .i64 f, .string s, .slice ai m ci] 50 (0, 0))).trans (hb1.mono (by have := B0.out.size; simp; omega)))
            have G1 : w1.heap[wr.heap.size]? = some (.cells #[.int .i64 f, .string s, .slice ai m ci] 50 (0, 0)) := (hb1.block wr.heap.size (by simp)).trans (blk_new _ _)
            obtain ⟨c0, c1, c2, _, _, _⟩ := blk3 G1
            clear hb1 G1
            go_wp2
            go_ret
            exact ⟨rfl, B1.out⟩
          · have hokk := HOK.out.2 ⟨hgp, rfl, fun h e0 => hem ⟨by omega, ba_nil6.2 (hcs.1 e0)⟩⟩
            have HALL := hide (HST2.out hokk)
            have C2 := hide (fun w ht => endOfPiece_any f s ai m ci w (by omega) (by omega) (by omega) ht)
            rw [← HNX.out] at C2
            clear hgp hcs hokk
            by_cases hem1 : (k : Int) < (n : Int) - 1
            · have hem2 : s.toList.isEmpty = false := by
                cases hq : s.toList.isEmpty with
                | false => rfl
                | true => exact absurd ⟨hem1, List.isEmpty_iff.1 hq⟩ hem
              clear hem
              go_wp2_with fail
              refine (C1.out _ (HD4.out.below ((Below.refl _ _).alloc (Nat.le_refl _) _)) (HT.out.below ((B0.out.alloc B0.out.size _)))).mono ?_
              rintro e w1 ⟨rfl, hb1⟩
              have B1 := hide ((B0.out.alloc B0.out.size (.cells #[.int .i64 f, .string s, .slice ai m ci] 50 (0, 0))).trans (hb1.mono (by have := B0.out.size; simp; omega)))
              have G1 : w1.heap[wr.heap.size]? = some (.cells #[.int .i64 f, .string s, .slice ai m ci] 50 (0, 0)) := (hb1.block wr.heap.size (by simp)).trans (blk_new _ _)
              obtain ⟨c0, c1, c2, _, _, _⟩ := blk3 G1
              clear hb1 G1
              go_wp2_with fail
              refine (C2.out _ (HT.out.below B1.out)).mono ?_
              rintro e w2 ⟨rfl, hb2⟩
              have B2 := hide (B1.out.trans (hb2.mono B1.out.size))
              clear hb2
              go_wp2
              go_roundw
              case rel => exact ⟨k + 1, by omega, by go_num, rfl, HALL.out, B2.out⟩
              case measure => simp [intOf]; omega
            · clear hem
              go_wp2_with fail
              refine (C1.out _ (HD4.out.below ((Below.refl _ _).alloc (Nat.le_refl _) _)) (HT.out.below ((B0.out.alloc B0.out.size _)))).mono ?_
              rintro e w1 ⟨rfl, hb1⟩
              have B1 := hide ((B0.out.alloc B0.out.size (.cells #[.int .i64 f, .string s, .slice ai m ci] 50 (0, 0))).trans (hb1.mono (by have := B0.out.size; simp; omega)))
              have G1 : w1.heap[wr.heap.size]? = some (.cells #[.int .i64 f, .string s, .slice ai m ci] 50 (0, 0)) := (hb1.block wr.heap.size (by simp)).trans (blk_new _ _)
              obtain ⟨c0, c1, c2, _, _, _⟩ := blk3 G1
              clear hb1 G1
              go_wp2_with fail
              refine (C2.out _ (HT.out.below B1.out)).mono ?_
              rintro e w2 ⟨rfl, hb2⟩
              have B2 := hide (B1.out.trans (hb2.mono B1.out.size))
              clear hb2
              go_wp2
              go_roundw
              case rel => exact ⟨k + 1, by omega, by go_num, rfl, HALL.out, B2.out⟩
              case measure => simp [intOf]; omega
      · have hE : bb = false := by
          cases bb with
          | false => rfl
          | true => exact absurd (HOK.out.1 (HOK0.out rfl)).2.1 hft
        subst hE
        clear hsx
        go_wp2
        go_ret
        exact ⟨rfl, B0.out.alloc B0.out.size _⟩
    · obtain rfl : k = n := by omega
      have hltI : ¬ (k : Int) < (k : Int) := by omega
      have hE : bb = true := HBB.out.2 (fun i hi => HK.out i (by rw [← HN.out]; exact hi))
      subst hE
      obtain ⟨t, htt⟩ : ∃ t, t = atg L k := ⟨_, rfl⟩
      rw [← htt]
      go_wp2
      go_ret
      exact ⟨rfl, hbel⟩
end Go.Proofs.YtbcljhafdpnjbabDoor.L6
