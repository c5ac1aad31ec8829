/-
  Contracts: laws.sameInts says that two lists alike are alike; spec.ZigZag; and what is put comes back.
  What is told of a range is told of its parts. Nothing of the program's text is proved here.
  Contracts: impl.AppendChunk and spec.AppendChunk: the text of a text's samples and one behind, where all is good.
  Contracts: impl.JoinChunks and spec.JoinChunks: the text of the samples of two texts, one behind the other, where all is good.
  'append' of samples behind a list that is the call's own, and a list's first samples as a slice. Nothing of the program's text is proved here but closed facts on its types.
  Contract of the laws' own helper laws.numberOf: it tells some number.
-/
import Derived.Test.YtapffbbmofhpoaaDoorBundle6
import Derived.Test.YtapffbbmofhpoaaDoorBundle1
import Derived.Test.YtapffbbmofhpoaaDoorBundle4
import Derived.Test.YtapffbbmofhpoaaDoorBundle2
import Derived.Deep.QuietTactic
import Derived.BigQuiet
import Derived.Test.YtapffbbmofhpoaaDoorBundle5
import Derived.Maps.AppendAt
import Derived.Deep.Upon
import Derived.Deep.AppendLies
namespace Go.Proofs.YtapffbbmofhpoaaDoor.L1
open Go.RowKit
set_option linter.unusedVariables false

set_option maxRecDepth 100000 in
set_option maxHeartbeats 1000000 in
theorem sameInts_same (a b : Option Addr) (xs : List Int) (n c1 c2 : Nat) (w : World) (hn : xs.length = n) (ha : Sl w a xs) (hb : Sl w b xs) (hn2 : n ≤ 1048576) :
    Calls Tryd.prog 25 #[.slice a n c1, .slice b n c2] w fun e w' => e = .returned (.bool true) ∧ Below w.heap.size w w' := by
  have HA := hide ha
  have HB := hide hb
  have HN := hide hn
  clear ha hb hn
  go_enter Tryd.func25, Tryd.ntmps25
  go_wp2
  go_loopw [13] (fun i wr => ∃ k : Nat, k ≤ n ∧ i = .int .i64 k ∧ Below w.heap.size w wr) (fun i _ => n - (intOf i).toNat)
  case atStart => exact ⟨0, Nat.zero_le _, rfl, Below.refl _ _⟩
  case round =>
    obtain ⟨k, hk, rfl, hbel⟩ := hrel
    by_cases hlt : k < n
    · obtain ⟨b1, o1, rfl, h1⟩ := HA.out k (by rw [HN.out]; exact hlt)
      obtain ⟨b2, o2, rfl, h2⟩ := HB.out k (by rw [HN.out]; exact hlt)
      have g1 : wr.cell? ⟨b1, o1 + k, none⟩ = some (.int .i64 (xs.getD k 0)) := by
        rw [hbel.cell (p := ⟨b1, o1 + k, none⟩) (blk_lt h1)]
        exact h1
      have g2 : wr.cell? ⟨b2, o2 + k, none⟩ = some (.int .i64 (xs.getD k 0)) := by
        rw [hbel.cell (p := ⟨b2, o2 + k, none⟩) (blk_lt h2)]
        exact h2
      obtain ⟨x, hx⟩ : ∃ x, x = xs.getD k 0 := ⟨_, rfl⟩
      rw [← hx] at g1 g2
      have hltI : (k : Int) < (n : Int) := by omega
      clear h1 h2 hx
      go_wp2
      go_quiet (fail)
      go_wp2
      go_roundw
      case rel => exact ⟨k + 1, by omega, by go_num, below_drewN hbel _⟩
      case measure => simp [intOf]; omega
    · have hltI : ¬ (k : Int) < (n : Int) := by omega
      go_wp2
      go_ret
      exact ⟨rfl, hbel⟩

set_option maxRecDepth 100000 in
set_option maxHeartbeats 400000 in
theorem specZig_yes (n : Int) (w : World) (h1 : -1000000000000 ≤ n) (h2 : n ≤ 1000000000000) :
    Calls Tryd.prog 12 #[.int .i64 n] w fun e w' => e = .returned (.tuple #[.int .i64 (zig n), .bool true]) ∧ w = w' := by
  have hz := fun w => l1Zig_any n w h1 h2
  have HZ := hide hz
  clear hz
  go_enter Tryd.func12, Tryd.ntmps12
  go_wp2_with (first | (go_at_call 78; refine (unhide HZ _).mono ?_; rintro e w1 ⟨rfl, rfl⟩) | go_in)
  go_ret2
  exact ⟨rfl, rfl⟩
set_option maxRecDepth 100000 in
set_option maxHeartbeats 400000 in
theorem specZig_no (n : Int) (w : World) (h : ¬ (-1000000000000 ≤ n ∧ n ≤ 1000000000000)) :
    Calls Tryd.prog 12 #[.int .i64 n] w fun e w' => e = .returned (.tuple #[.int .i64 0, .bool false]) ∧ w = w' := by
  by_cases h1 : -1000000000000 ≤ n
  · have h2 : ¬ n ≤ 1000000000000 := fun h2 => h ⟨h1, h2⟩
    clear h
    go_enter Tryd.func12, Tryd.ntmps12
    go_wp2
    go_ret2
    exact ⟨rfl, rfl⟩
  · clear h
    go_enter Tryd.func12, Tryd.ntmps12
    go_wp2
    go_ret2
    exact ⟨rfl, rfl⟩

theorem bts_str (l : List Int) (h : ∀ x ∈ l, 0 ≤ x ∧ x < 256) : bts (strOfNums l) 0 = l := by
  simp only [bts, strOfNums, List.drop_zero, List.map_map]
  have : ∀ l : List Int, (∀ x ∈ l, 0 ≤ x ∧ x < 256) → l.map ((fun c : UInt8 => (c.toNat : Int)) ∘ fun n : Int => UInt8.ofNat n.toNat) = l := by
    intro l
    induction l with
    | nil => intro _; rfl
    | cons x l ih =>
      intro hl
      have hx := hl x (by simp)
      rw [List.map_cons, ih (fun y hy => hl y (by simp [hy]))]
      congr 1
      simp only [Function.comp, UInt8.toNat_ofNat']
      omega
  exact this l h
theorem vd_bytes (z : Int) (h1 : 0 ≤ z) (h2 : z ≤ 2000000000000) : ∀ x ∈ vd z, 0 ≤ x ∧ x < 256 := vdf_byte 5 z h1 (by simp [wor]; omega)

/-- What is put comes back. -/
theorem get_back (n : Int) (w : World) (h1 : -1000000000000 ≤ n) (h2 : n ≤ 1000000000000) (ht : Tab w) :
    Calls Tryd.prog 15 #[.string (strOfNums (vd (zig n))), .int .i64 0] w fun e w' => e = .returned (.tuple #[.int .i64 n, .int .i64 ((vd (zig n)).length : Nat), .bool true]) ∧ w = w' := by
  have hz := zig_lo n
  have hz2 := zig_hi n h1 h2
  have hp := vdf_pos 5 (zig n)
  have hl := vdf_le 5 (zig n)
  have hg := gv_vd (zig n) [] hz hz2
  have h := getVarint_any (strOfNums (vd (zig n))) 0 w (by rw [strOfNums_size]; exact hp) (by rw [strOfNums_size]; unfold maxLen; unfold vd; omega) ht
  rw [bts_str _ (vd_bytes _ hz hz2)] at h
  rw [List.append_nil] at hg
  rw [hg] at h
  simp only [gvRes, val_vd _ hz hz2, zag_zig, Nat.zero_add] at h
  exact h

theorem cat_bytes : ∀ (xs : List Int), (∀ x ∈ xs, -1000000000000 ≤ x ∧ x ≤ 1000000000000) → ∀ y ∈ cat xs, 0 ≤ y ∧ y < 256
  | [], _, y, hy => by simp [cat] at hy
  | n :: l, h, y, hy => by
    have hn := h n (by simp)
    simp only [cat, List.mem_append] at hy
    rcases hy with hy | hy
    · exact vd_bytes (zig n) (zig_lo n) (zig_hi n hn.1 hn.2) y hy
    · exact cat_bytes l (fun x hx => h x (by simp [hx])) y hy
theorem gall_cat : ∀ (xs : List Int), (∀ x ∈ xs, -1000000000000 ≤ x ∧ x ≤ 1000000000000) → gall (cat xs) = some xs
  | [], _ => rfl
  | n :: l, h => by
    have hn := h n (by simp)
    have hg := gv_vd (zig n) (cat l) (zig_lo n) (zig_hi n hn.1 hn.2)
    have hp : 0 < (vd (zig n) ++ cat l).length := by have := vdf_pos 5 (zig n); simp [vd]; omega
    show gall (vd (zig n) ++ cat l) = _
    rw [gall_some hp hg, List.drop_left, gall_cat l (fun x hx => h x (by simp [hx])), val_vd _ (zig_lo n) (zig_hi n hn.1 hn.2), zag_zig]
    rfl
theorem okL_mem {xs : List Int} (h : OkL xs) : ∀ x ∈ xs, -1000000000000 ≤ x ∧ x ≤ 1000000000000 := by
  intro x hx
  obtain ⟨j, hj, rfl⟩ := List.getElem_of_mem hx
  have := h j hj
  simpa [List.getD, List.getElem?_eq_getElem hj] using this
theorem gaRes_le (t : List Int) : ((gaRes t).getD []).length ≤ 60 := by
  unfold gaRes
  split
  · cases gall t with
    | none => simp
    | some xs =>
      simp only [Option.bind_some]
      split
      · simpa
      · simp
  · simp
theorem gaRes_cat {xs : List Int} (h : OkL xs) (hl : xs.length ≤ 60) : gaRes (cat xs) = some xs := by
  have h1 := gall_cat xs (okL_mem h)
  have h2 := cat_len xs
  unfold gaRes
  rw [if_pos (by omega), h1]
  simp [hl]
end Go.Proofs.YtapffbbmofhpoaaDoor.L1

namespace Go.Proofs.YtapffbbmofhpoaaDoor.L1
open Go.RowKit
set_option linter.unusedVariables false

theorem goodS_up {l : List (Int × Int)} (h : GoodS l) : l.Pairwise fun p q => p.1 ≤ q.1 := by
  have key : ∀ i j, i < j → j < l.length → (l.getD i (0, 0)).1 < (l.getD j (0, 0)).1 := by
    intro i j hij
    induction j with
    | zero => omega
    | succ j ih =>
      intro hj
      have h1 := (h.2 (j + 1) hj).2 (by omega)
      simp only [Nat.add_sub_cancel] at h1
      by_cases e : i = j
      · subst e; exact h1
      · have := ih (by omega) (by omega); omega
  rw [List.pairwise_iff_getElem]
  intro i j hi hj hij
  have := key i j hij hj
  simp only [List.getD, List.getElem?_eq_getElem hi, List.getElem?_eq_getElem hj, Option.getD_some] at this
  omega
theorem rg_none {fr mid : Int} : ∀ {l : List (Int × Int)}, (∀ q ∈ l, mid ≤ q.1) → rg fr mid l = [] := fun h => by
  unfold rg
  rw [List.filter_eq_nil_iff]
  intro q hq
  have := h q hq
  simp
  omega
theorem rg_parts {fr mid til : Int} (h1 : fr ≤ mid) (h2 : mid ≤ til) : ∀ {l : List (Int × Int)}, (l.Pairwise fun p q => p.1 ≤ q.1) → rg fr mid l ++ rg mid til l = rg fr til l
  | [], _ => rfl
  | p :: l, h => by
    have ih := rg_parts h1 h2 (List.pairwise_cons.1 h).2
    have hp := (List.pairwise_cons.1 h).1
    by_cases c1 : p.1 < mid
    · have e1 : rg mid til (p :: l) = rg mid til l := by unfold rg; rw [List.filter_cons_of_neg (by simp; omega)]
      by_cases c2 : fr ≤ p.1
      · have e2 : rg fr mid (p :: l) = p :: rg fr mid l := by unfold rg; rw [List.filter_cons_of_pos (by simp; omega)]
        have e3 : rg fr til (p :: l) = p :: rg fr til l := by unfold rg; rw [List.filter_cons_of_pos (by simp; omega)]
        rw [e1, e2, e3, List.cons_append, ih]
      · have e2 : rg fr mid (p :: l) = rg fr mid l := by unfold rg; rw [List.filter_cons_of_neg (by simp; omega)]
        have e3 : rg fr til (p :: l) = rg fr til l := by unfold rg; rw [List.filter_cons_of_neg (by simp; omega)]
        rw [e1, e2, e3, ih]
    · have e0 : rg fr mid (p :: l) = [] := rg_none (fun q hq => by
        rcases List.mem_cons.1 hq with rfl | hq
        · omega
        · have := hp q hq; omega)
      have e9 : rg fr mid l = [] := rg_none (fun q hq => by have := hp q hq; omega)
      rw [e9, List.nil_append] at ih
      rw [e0, List.nil_append]
      by_cases c2 : p.1 < til
      · have e1 : rg mid til (p :: l) = p :: rg mid til l := by unfold rg; rw [List.filter_cons_of_pos (by simp; omega)]
        have e3 : rg fr til (p :: l) = p :: rg fr til l := by unfold rg; rw [List.filter_cons_of_pos (by simp; omega)]
        rw [e1, e3, ih]
      · have e1 : rg mid til (p :: l) = rg mid til l := by unfold rg; rw [List.filter_cons_of_neg (by simp; omega)]
        have e3 : rg fr til (p :: l) = rg fr til l := by unfold rg; rw [List.filter_cons_of_neg (by simp; omega)]
        rw [e1, e3, ih]
theorem dec_enc2 {l : List (Int × Int)} (h : GoodS l) : dcRes (bts (strOfNums (cat (nums l))) 0) = some l := by
  rw [bts_str _ (cat_bytes _ (okL_mem' (okL_nums h))), dcRes_cat h]
theorem enc_size2 {l : List (Int × Int)} (h : GoodS l) : (cat (nums l)).length ≤ 486 := by
  have h1 := cat_len (nums l)
  have h2 := nums_len l
  have := h.1
  omega
end Go.Proofs.YtapffbbmofhpoaaDoor.L1

namespace Go.Proofs.YtapffbbmofhpoaaDoor.L1
open Go.RowKit
set_option linter.unusedVariables false

set_option maxRecDepth 100000 in
set_option maxHeartbeats 1000000 in
theorem appendChunk_any (s : ByteArray) (x y : Int) (w : World) (hs : s.size ≤ 1048576) (ht : Tab w) :
    Calls Tryd.prog 42 #[.string s, .agg #[.int .i64 x, .int .i64 y]] w fun e w' => e = .returned (.tuple #[.string (encT (both (dcRes (bts s 0)) (some [(x, y)]))), .bool (encB (both (dcRes (bts s 0)) (some [(x, y)])))]) ∧ Below w.heap.size w w' := by
  obtain ⟨W0, hW0⟩ : ∃ W0, W0 = w.alloc (.cells #[.int .i64 x, .int .i64 y] 50) := ⟨_, rfl⟩
  have hb0 : Below w.heap.size w W0 := by rw [hW0]; exact (Below.refl _ _).alloc (Nat.le_refl _) _
  have hx0 : W0.cell? ⟨w.heap.size, 0, none⟩ = some (.int .i64 x) := by rw [hW0]; simp
  have hy00 : W0.cell? ⟨w.heap.size, 1, none⟩ = some (.int .i64 y) := by rw [hW0]; simp
  have HX0 := hide hx0
  have HY0 := hide hy00
  have HB0 := hide hb0
  have HW0 := hide hW0
  have c1 := decodeChunk_any s W0 hs (ht.below hb0)
  clear hx0 hy00 hb0 hW0
  have hl1 := dcRes_len (t := bts s 0) (bts_mem s 0)
  have HT := hide ht
  clear ht
  obtain ⟨i1, hi1, hy0, hy1, hy2⟩ := info_parts info_smpS
  cases hda : dcRes (bts s 0) with
  | none =>
    rw [hda] at c1
    simp only [RetS, Option.isSome_none, Option.getD_none] at c1
    rw [both_left, encT_none, encB_none]
    have C1 := hide c1
    clear c1 hda hl1
    go_enter Tryd.func42, Tryd.ntmps42
    go_wp2_with fail
    rw [← HW0.out]
    refine C1.out.mono ?_
    rintro e w1 ⟨v1, rfl, ho1, hb1⟩
    obtain ⟨fa, fc, rfl, _, _⟩ := own_formS ho1
    clear ho1
    go_wp2
    go_ret2
    exact ⟨rfl, HB0.out.trans (hb1.mono HB0.out.size)⟩
  | some l =>
    rw [hda] at c1 hl1
    simp only [RetS, Option.isSome_some, Option.getD_some] at c1 hl1
    obtain ⟨n1, hn1⟩ : ∃ n, n = l.length := ⟨_, rfl⟩
    rw [← hn1] at c1 hl1
    obtain ⟨T, OK, hTE, CE⟩ : ∃ (T : ByteArray) (OK : Bool), (T = encT (both (some l) (some [(x, y)])) ∧ OK = encB (both (some l) (some [(x, y)]))) ∧ Hid (∀ (z : Option Addr) (cap : Nat) (w : World), Sl2 w z (l ++ [(x, y)]) → Tab w → Calls Tryd.prog 35 #[.slice z (n1 + 1) cap] w fun e w' => e = .returned (.tuple #[.string T, .bool OK]) ∧ Below w.heap.size w w') := by
      by_cases hg : GoodS (l ++ [(x, y)])
      · exact ⟨_, _, ⟨(encT_yes hg).symm, (encB_yes hg).symm⟩, fun z cap w hs ht => encodeChunk_yes z (l ++ [(x, y)]) (n1 + 1) cap w (by rw [List.length_append, hn1]; rfl) hs hg ht⟩
      · exact ⟨_, _, ⟨(encT_no hg).symm, (encB_no hg).symm⟩, fun z cap w hs _ => encodeChunk_no z (l ++ [(x, y)]) (n1 + 1) cap w (by rw [List.length_append, hn1]; rfl) hs (by omega) hg⟩
    rw [← hTE.1, ← hTE.2]
    have C1 := hide c1
    clear c1 hda hTE hn1
    go_enter Tryd.func42, Tryd.ntmps42
    go_wp2_with fail
    rw [← HW0.out]
    refine C1.out.mono ?_
    rintro e w1 ⟨v1, rfl, ho1, hb1⟩
    obtain ⟨fa, fc, rfl, _, _⟩ := own_formS ho1
    have O1 := hide (own_baseS ho1 HB0.out.size)
    have hx1 := (hb1.cell (p := ⟨w.heap.size, 0, none⟩) (blk_lt HX0.out)).trans HX0.out
    have hy1' := (hb1.cell (p := ⟨w.heap.size, 1, none⟩) (blk_lt HY0.out)).trans HY0.out
    have B1 := hide (HB0.out.trans (hb1.mono HB0.out.size))
    have hsz := B1.out.size
    clear ho1 hb1
    go_wp2_with (first
      | (at_builtin; refine wpList_append_own _ rfl _ _ 41 rfl w.heap.size 50 i1 (.agg #[.int .i64 0, .int .i64 0]) 2 16 Tryd.underlying41 hi1 hy0 hy1 hy2 rfl (by decide) _ _ _ rfl (O1.out.alloc _) ⟨w1.heap.size, 0, none⟩ 1 1 [.int .i64 x, .int .i64 y] rfl rfl (cell_two_newS _ _ _ _) (by intro u hu; simp at hu; rcases hu with rfl | rfl <;> rfl) (by unfold maxLen; omega) (by omega) (by simp; omega) ?_)
      | go_in)
    intro v6 w6 hown6 hgrow6 _
    have hb6 : Below w.heap.size w1 w6 := below_app hsz hgrow6 (fun g hg => (O1.out.lt g hg).1)
    have hown7 : w6.ownsRow w.heap.size 50 2 v6 (n1 + 1) (flat2 (l ++ [(x, y)])) := by rw [flat2_append]; simpa [flat2] using hown6
    obtain ⟨v6a, v6c, rfl, sl6, _⟩ := own_formS hown7
    have S6 := hide sl6
    have B6 := hide (B1.out.trans hb6)
    clear hown6 hgrow6 sl6 hb6 hown7
    go_wp2_with fail
    refine (CE.out _ _ _ S6.out (HT.out.below B6.out)).mono ?_
    rintro e w7 ⟨rfl, hb7⟩
    have B7 := hide (B6.out.trans (hb7.mono B6.out.size))
    clear hb7
    go_wp2
    go_ret2
    exact ⟨rfl, B7.out⟩

set_option maxRecDepth 100000 in
set_option maxHeartbeats 1000000 in
theorem specAppend_any (s : ByteArray) (x y : Int) (w : World) (hs : s.size ≤ 1048576) :
    Calls Tryd.prog 55 #[.string s, .agg #[.int .i64 x, .int .i64 y]] w fun e w' => e = .returned (.tuple #[.string (encT (both (dcRes (bts s 0)) (some [(x, y)]))), .bool (encB (both (dcRes (bts s 0)) (some [(x, y)])))]) ∧ Below w.heap.size w w' := by
  obtain ⟨W0, hW0⟩ : ∃ W0, W0 = w.alloc (.cells #[.int .i64 x, .int .i64 y] 50) := ⟨_, rfl⟩
  have hb0 : Below w.heap.size w W0 := by rw [hW0]; exact (Below.refl _ _).alloc (Nat.le_refl _) _
  have hx0 : W0.cell? ⟨w.heap.size, 0, none⟩ = some (.int .i64 x) := by rw [hW0]; simp
  have hy00 : W0.cell? ⟨w.heap.size, 1, none⟩ = some (.int .i64 y) := by rw [hW0]; simp
  have HX0 := hide hx0
  have HY0 := hide hy00
  have HB0 := hide hb0
  have HW0 := hide hW0
  have c1 := specDecode_any s W0 hs
  clear hx0 hy00 hb0 hW0
  have hl1 := dcRes_len (t := bts s 0) (bts_mem s 0)
  obtain ⟨i1, hi1, hy0, hy1, hy2⟩ := info_parts info_smpS
  cases hda : dcRes (bts s 0) with
  | none =>
    rw [hda] at c1
    simp only [RetS, Option.isSome_none, Option.getD_none] at c1
    rw [both_left, encT_none, encB_none]
    have C1 := hide c1
    clear c1 hda hl1
    go_enter Tryd.func55, Tryd.ntmps55
    go_wp2_with fail
    rw [← HW0.out]
    refine C1.out.mono ?_
    rintro e w1 ⟨v1, rfl, ho1, hb1⟩
    obtain ⟨fa, fc, rfl, _, _⟩ := own_formS ho1
    clear ho1
    go_wp2
    go_ret2
    exact ⟨rfl, HB0.out.trans (hb1.mono HB0.out.size)⟩
  | some l =>
    rw [hda] at c1 hl1
    simp only [RetS, Option.isSome_some, Option.getD_some] at c1 hl1
    obtain ⟨n1, hn1⟩ : ∃ n, n = l.length := ⟨_, rfl⟩
    rw [← hn1] at c1 hl1
    obtain ⟨T, OK, hTE, CE⟩ : ∃ (T : ByteArray) (OK : Bool), (T = encT (both (some l) (some [(x, y)])) ∧ OK = encB (both (some l) (some [(x, y)]))) ∧ Hid (∀ (z : Option Addr) (cap : Nat) (w : World), Sl2 w z (l ++ [(x, y)]) → Calls Tryd.prog 36 #[.slice z (n1 + 1) cap] w fun e w' => e = .returned (.tuple #[.string T, .bool OK]) ∧ Below w.heap.size w w') := by
      by_cases hg : GoodS (l ++ [(x, y)])
      · exact ⟨_, _, ⟨(encT_yes hg).symm, (encB_yes hg).symm⟩, fun z cap w hs => specEncode_yes z (l ++ [(x, y)]) (n1 + 1) cap w (by rw [List.length_append, hn1]; rfl) hs hg⟩
      · exact ⟨_, _, ⟨(encT_no hg).symm, (encB_no hg).symm⟩, fun z cap w hs => specEncode_no z (l ++ [(x, y)]) (n1 + 1) cap w (by rw [List.length_append, hn1]; rfl) hs (by omega) hg⟩
    rw [← hTE.1, ← hTE.2]
    have C1 := hide c1
    clear c1 hda hTE hn1
    go_enter Tryd.func55, Tryd.ntmps55
    go_wp2_with fail
    rw [← HW0.out]
    refine C1.out.mono ?_
    rintro e w1 ⟨v1, rfl, ho1, hb1⟩
    obtain ⟨fa, fc, rfl, _, _⟩ := own_formS ho1
    have O1 := hide (own_baseS ho1 HB0.out.size)
    have hx1 := (hb1.cell (p := ⟨w.heap.size, 0, none⟩) (blk_lt HX0.out)).trans HX0.out
    have hy1' := (hb1.cell (p := ⟨w.heap.size, 1, none⟩) (blk_lt HY0.out)).trans HY0.out
    have B1 := hide (HB0.out.trans (hb1.mono HB0.out.size))
    have hsz := B1.out.size
    clear ho1 hb1
    go_wp2_with (first
      | (at_builtin; refine wpList_append_own _ rfl _ _ 41 rfl w.heap.size 50 i1 (.agg #[.int .i64 0, .int .i64 0]) 2 16 Tryd.underlying41 hi1 hy0 hy1 hy2 rfl (by decide) _ _ _ rfl (O1.out.alloc _) ⟨w1.heap.size, 0, none⟩ 1 1 [.int .i64 x, .int .i64 y] rfl rfl (cell_two_newS _ _ _ _) (by intro u hu; simp at hu; rcases hu with rfl | rfl <;> rfl) (by unfold maxLen; omega) (by omega) (by simp; omega) ?_)
      | go_in)
    intro v6 w6 hown6 hgrow6 _
    have hb6 : Below w.heap.size w1 w6 := below_app hsz hgrow6 (fun g hg => (O1.out.lt g hg).1)
    have hown7 : w6.ownsRow w.heap.size 50 2 v6 (n1 + 1) (flat2 (l ++ [(x, y)])) := by rw [flat2_append]; simpa [flat2] using hown6
    obtain ⟨v6a, v6c, rfl, sl6, _⟩ := own_formS hown7
    have S6 := hide sl6
    have B6 := hide (B1.out.trans hb6)
    clear hown6 hgrow6 sl6 hb6 hown7
    go_wp2_with fail
    refine (CE.out _ _ _ S6.out).mono ?_
    rintro e w7 ⟨rfl, hb7⟩
    have B7 := hide (B6.out.trans (hb7.mono B6.out.size))
    clear hb7
    go_wp2
    go_ret2
    exact ⟨rfl, B7.out⟩
end Go.Proofs.YtapffbbmofhpoaaDoor.L1

namespace Go.Proofs.YtapffbbmofhpoaaDoor.L1
open Go.RowKit
set_option linter.unusedVariables false

theorem own_cap {w : World} {base n cap size : Nat} {e : TypeId} {a : Option Addr} {xs : List Value} (h : w.ownsRow base e size (.slice a n cap) n xs) : n ≤ cap := by
  rcases h.2 with ⟨hv, h0⟩ | ⟨g, cap', cur, hv, _, _, hle, _⟩
  · omega
  · cases hv; exact hle
theorem flat2_one : ∀ (m : List (Int × Int)), ∀ u ∈ flat2 m, u.oneCell' = true
  | [], u, h => by simp [flat2] at h
  | p :: m, u, h => by
    simp only [flat2, List.mem_cons] at h
    rcases h with rfl | rfl | h
    · rfl
    · rfl
    · exact flat2_one m u h

set_option maxRecDepth 100000 in
set_option maxHeartbeats 1000000 in
theorem joinChunks_any (a b : ByteArray) (w : World) (ha : a.size ≤ 1048576) (hb : b.size ≤ 1048576) (ht : Tab w) :
    Calls Tryd.prog 57 #[.string a, .string b] w fun e w' => e = .returned (.tuple #[.string (encT (both (dcRes (bts a 0)) (dcRes (bts b 0)))), .bool (encB (both (dcRes (bts a 0)) (dcRes (bts b 0))))]) ∧ Below w.heap.size w w' := by
  have c1 := decodeChunk_any a w ha ht
  have c2 := (fun w ht => decodeChunk_any b w hb ht)
  have hl1 := dcRes_len (t := bts a 0) (bts_mem a 0)
  have hl2 := dcRes_len (t := bts b 0) (bts_mem b 0)
  have HT := hide ht
  clear ht
  obtain ⟨i1, hi1, hy0, hy1, hy2⟩ := info_parts info_smpS
  cases hda : dcRes (bts a 0) with
  | none =>
    rw [hda] at c1
    simp only [RetS, Option.isSome_none, Option.getD_none] at c1
    rw [both_left, encT_none, encB_none]
    obtain ⟨r2, hr2⟩ : ∃ r2, r2 = dcRes (bts b 0) := ⟨_, rfl⟩
    simp only [← hr2] at c2
    have C1 := hide c1
    have C2 := hide c2
    clear c1 c2 hda hr2 hl1 hl2
    go_enter Tryd.func57, Tryd.ntmps57
    go_wp2_with fail
    refine C1.out.mono ?_
    rintro e w1 ⟨v1, rfl, ho1, hb1⟩
    obtain ⟨fa, fc, rfl, _, _⟩ := own_formS ho1
    have B1 := hide hb1
    clear ho1 hb1
    go_wp2
    go_ret2
    exact ⟨rfl, B1.out⟩
  | some l =>
    rw [hda] at c1 hl1
    simp only [RetS, Option.isSome_some, Option.getD_some] at c1 hl1
    cases hdb : dcRes (bts b 0) with
    | none =>
      simp only [hdb, RetS, Option.isSome_none, Option.getD_none] at c2
      rw [both_right, encT_none, encB_none]
      have C1 := hide c1
      have C2 := hide c2
      clear c1 c2 hda hdb hl1 hl2
      go_enter Tryd.func57, Tryd.ntmps57
      go_wp2_with fail
      refine C1.out.mono ?_
      rintro e w1 ⟨v1, rfl, ho1, hb1⟩
      obtain ⟨fa, fc, rfl, _, _⟩ := own_formS ho1
      have B1 := hide hb1
      clear ho1 hb1
      go_wp2_with fail
      refine (C2.out _ (HT.out.below B1.out)).mono ?_
      rintro e w2 ⟨v2, rfl, ho2, hb2⟩
      obtain ⟨ba, bc, rfl, _, _⟩ := own_formS ho2
      have B2 := hide (B1.out.trans (hb2.mono B1.out.size))
      clear ho2 hb2
      go_wp2
      go_ret2
      exact ⟨rfl, B2.out⟩
    | some m =>
      simp only [hdb, RetS, Option.isSome_some, Option.getD_some] at c2 hl2
      obtain ⟨n1, hn1⟩ : ∃ n, n = l.length := ⟨_, rfl⟩
      obtain ⟨n2, hn2⟩ : ∃ n, n = m.length := ⟨_, rfl⟩
      rw [← hn1] at c1 hl1
      simp only [← hn2] at c2
      rw [← hn2] at hl2
      obtain ⟨T, OK, hTE, CE⟩ : ∃ (T : ByteArray) (OK : Bool), (T = encT (both (some l) (some m)) ∧ OK = encB (both (some l) (some m))) ∧ Hid (∀ (x : Option Addr) (cap : Nat) (w : World), Sl2 w x (l ++ m) → Tab w → Calls Tryd.prog 35 #[.slice x (n1 + n2) cap] w fun e w' => e = .returned (.tuple #[.string T, .bool OK]) ∧ Below w.heap.size w w') := by
        by_cases hg : GoodS (l ++ m)
        · exact ⟨_, _, ⟨(encT_yes hg).symm, (encB_yes hg).symm⟩, fun x cap w hs ht => encodeChunk_yes x (l ++ m) (n1 + n2) cap w (by rw [List.length_append, hn1, hn2]) hs hg ht⟩
        · exact ⟨_, _, ⟨(encT_no hg).symm, (encB_no hg).symm⟩, fun x cap w hs _ => encodeChunk_no x (l ++ m) (n1 + n2) cap w (by rw [List.length_append, hn1, hn2]) hs (by omega) hg⟩
      rw [← hTE.1, ← hTE.2]
      have C1 := hide c1
      have C2 := hide c2
      have HM := hide hn2.symm
      clear c1 c2 hda hdb hTE hn1 hn2
      go_enter Tryd.func57, Tryd.ntmps57
      go_wp2_with fail
      refine C1.out.mono ?_
      rintro e w1 ⟨v1, rfl, ho1, hb1⟩
      obtain ⟨fa, fc, rfl, _, _⟩ := own_formS ho1
      have B1 := hide hb1
      have O1' := hide ho1
      clear ho1 hb1
      go_wp2_with fail
      refine (C2.out _ (HT.out.below B1.out)).mono ?_
      rintro e w2 ⟨v2, rfl, ho2, hb2⟩
      have O1 := hide (own_belowS O1'.out hb2)
      have B2 := hide (B1.out.trans (hb2.mono B1.out.size))
      clear hb2 O1'
      rcases ho2.2 with ⟨hv, h0⟩ | ⟨g, cap, cur, hv, _⟩
      · subst hv
        have hm0 : m = [] := List.eq_nil_of_length_eq_zero (by rw [HM.out]; exact h0)
        subst hm0
        subst h0
        obtain ⟨_, _, eo, sl1, _⟩ := own_formS O1.out
        cases eo
        have S6 := hide sl1
        have B6 := B2
        simp only [List.append_nil, Nat.add_zero] at CE
        have hcap1 := own_cap O1.out
        have hcap1I : (n1 : Int) ≤ (fc : Int) := by omega
        clear ho2 sl1
        cases fa with
        | none =>
          go_wp2_with fail
          try go_simp
          try go_wp2_with fail
          refine (CE.out _ _ _ S6.out (HT.out.below B6.out)).mono ?_
          rintro e w7 ⟨rfl, hb7⟩
          have B7 := hide (B6.out.trans (hb7.mono B6.out.size))
          clear hb7
          go_wp2
          go_ret2
          exact ⟨rfl, B7.out⟩
        | some fx =>
          go_wp2_with fail
          try go_simp
          try go_wp2_with fail
          refine (CE.out _ _ _ S6.out (HT.out.below B6.out)).mono ?_
          rintro e w7 ⟨rfl, hb7⟩
          have B7 := hide (B6.out.trans (hb7.mono B6.out.size))
          clear hb7
          go_wp2
          go_ret2
          exact ⟨rfl, B7.out⟩
      · subst hv
        have O2 := hide ho2
        clear ho2
        go_wp2_with (first
          | (at_builtin; refine wpList_append_own _ rfl _ _ 41 rfl w.heap.size 50 i1 (.agg #[.int .i64 0, .int .i64 0]) 2 16 Tryd.underlying41 hi1 hy0 hy1 hy2 rfl (by decide) _ _ _ rfl O1.out ⟨g, 0, none⟩ n2 cap (flat2 m) rfl (by rw [flat2_len, HM.out]) (O2.out.cells (g := g) rfl) (flat2_one m) (by unfold maxLen; omega) (by omega) B2.out.size ?_)
          | go_in)
        intro v6 w6 hown6 hgrow6 _
        have hb6 : Below w.heap.size w2 w6 := (Below.refl _ w2).grown hgrow6 B2.out.size (fun g hg => (O1.out.lt g hg).1)
        rw [← flat2_append] at hown6
        obtain ⟨v6a, v6c, rfl, sl6, _⟩ := own_formS hown6
        have S6 := hide sl6
        have B6 := hide (B2.out.trans hb6)
        clear hown6 hgrow6 sl6 hb6
        go_wp2_with fail
        refine (CE.out _ _ _ S6.out (HT.out.below B6.out)).mono ?_
        rintro e w7 ⟨rfl, hb7⟩
        have B7 := hide (B6.out.trans (hb7.mono B6.out.size))
        clear hb7
        go_wp2
        go_ret2
        exact ⟨rfl, B7.out⟩

set_option maxRecDepth 100000 in
set_option maxHeartbeats 1000000 in
theorem specJoin_any (a b : ByteArray) (w : World) (ha : a.size ≤ 1048576) (hb : b.size ≤ 1048576) :
    Calls Tryd.prog 58 #[.string a, .string b] w fun e w' => e = .returned (.tuple #[.string (encT (both (dcRes (bts a 0)) (dcRes (bts b 0)))), .bool (encB (both (dcRes (bts a 0)) (dcRes (bts b 0))))]) ∧ Below w.heap.size w w' := by
  have c1 := specDecode_any a w ha
  have c2 := (fun w => specDecode_any b w hb)
  have hl1 := dcRes_len (t := bts a 0) (bts_mem a 0)
  have hl2 := dcRes_len (t := bts b 0) (bts_mem b 0)
  obtain ⟨i1, hi1, hy0, hy1, hy2⟩ := info_parts info_smpS
  cases hda : dcRes (bts a 0) with
  | none =>
    rw [hda] at c1
    simp only [RetS, Option.isSome_none, Option.getD_none] at c1
    rw [both_left, encT_none, encB_none]
    obtain ⟨r2, hr2⟩ : ∃ r2, r2 = dcRes (bts b 0) := ⟨_, rfl⟩
    simp only [← hr2] at c2
    have C1 := hide c1
    have C2 := hide c2
    clear c1 c2 hda hr2 hl1 hl2
    go_enter Tryd.func58, Tryd.ntmps58
    go_wp2_with fail
    refine C1.out.mono ?_
    rintro e w1 ⟨v1, rfl, ho1, hb1⟩
    obtain ⟨fa, fc, rfl, _, _⟩ := own_formS ho1
    have B1 := hide hb1
    clear ho1 hb1
    go_wp2_with fail
    refine (C2.out _).mono ?_
    rintro e w2 ⟨v2, rfl, ho2, hb2⟩
    obtain ⟨ba, bc, rfl, _, _⟩ := own_formS ho2
    have B2 := hide (B1.out.trans (hb2.mono B1.out.size))
    clear ho2 hb2
    go_wp2
    go_ret2
    exact ⟨rfl, B2.out⟩
  | some l =>
    rw [hda] at c1 hl1
    simp only [RetS, Option.isSome_some, Option.getD_some] at c1 hl1
    cases hdb : dcRes (bts b 0) with
    | none =>
      simp only [hdb, RetS, Option.isSome_none, Option.getD_none] at c2
      rw [both_right, encT_none, encB_none]
      have C1 := hide c1
      have C2 := hide c2
      clear c1 c2 hda hdb hl1 hl2
      go_enter Tryd.func58, Tryd.ntmps58
      go_wp2_with fail
      refine C1.out.mono ?_
      rintro e w1 ⟨v1, rfl, ho1, hb1⟩
      obtain ⟨fa, fc, rfl, _, _⟩ := own_formS ho1
      have B1 := hide hb1
      clear ho1 hb1
      go_wp2_with fail
      refine (C2.out _).mono ?_
      rintro e w2 ⟨v2, rfl, ho2, hb2⟩
      obtain ⟨ba, bc, rfl, _, _⟩ := own_formS ho2
      have B2 := hide (B1.out.trans (hb2.mono B1.out.size))
      clear ho2 hb2
      go_wp2
      go_ret2
      exact ⟨rfl, B2.out⟩
    | some m =>
      simp only [hdb, RetS, Option.isSome_some, Option.getD_some] at c2 hl2
      obtain ⟨n1, hn1⟩ : ∃ n, n = l.length := ⟨_, rfl⟩
      obtain ⟨n2, hn2⟩ : ∃ n, n = m.length := ⟨_, rfl⟩
      rw [← hn1] at c1 hl1
      simp only [← hn2] at c2
      rw [← hn2] at hl2
      obtain ⟨T, OK, hTE, CE⟩ : ∃ (T : ByteArray) (OK : Bool), (T = encT (both (some l) (some m)) ∧ OK = encB (both (some l) (some m))) ∧ Hid (∀ (x : Option Addr) (cap : Nat) (w : World), Sl2 w x (l ++ m) → Calls Tryd.prog 36 #[.slice x (n1 + n2) cap] w fun e w' => e = .returned (.tuple #[.string T, .bool OK]) ∧ Below w.heap.size w w') := by
        by_cases hg : GoodS (l ++ m)
        · exact ⟨_, _, ⟨(encT_yes hg).symm, (encB_yes hg).symm⟩, fun x cap w hs => specEncode_yes x (l ++ m) (n1 + n2) cap w (by rw [List.length_append, hn1, hn2]) hs hg⟩
        · exact ⟨_, _, ⟨(encT_no hg).symm, (encB_no hg).symm⟩, fun x cap w hs => specEncode_no x (l ++ m) (n1 + n2) cap w (by rw [List.length_append, hn1, hn2]) hs (by omega) hg⟩
      rw [← hTE.1, ← hTE.2]
      have C1 := hide c1
      have C2 := hide c2
      have HM := hide hn2.symm
      clear c1 c2 hda hdb hTE hn1 hn2
      go_enter Tryd.func58, Tryd.ntmps58
      go_wp2_with fail
      refine C1.out.mono ?_
      rintro e w1 ⟨v1, rfl, ho1, hb1⟩
      obtain ⟨fa, fc, rfl, _, _⟩ := own_formS ho1
      have B1 := hide hb1
      have O1' := hide ho1
      clear ho1 hb1
      go_wp2_with fail
      refine (C2.out _).mono ?_
      rintro e w2 ⟨v2, rfl, ho2, hb2⟩
      have O1 := hide (own_belowS O1'.out hb2)
      have B2 := hide (B1.out.trans (hb2.mono B1.out.size))
      clear hb2 O1'
      rcases ho2.2 with ⟨hv, h0⟩ | ⟨g, cap, cur, hv, _⟩
      · subst hv
        have hm0 : m = [] := List.eq_nil_of_length_eq_zero (by rw [HM.out]; exact h0)
        subst hm0
        subst h0
        obtain ⟨_, _, eo, sl1, _⟩ := own_formS O1.out
        cases eo
        have S6 := hide sl1
        have B6 := B2
        simp only [List.append_nil, Nat.add_zero] at CE
        have hcap1 := own_cap O1.out
        have hcap1I : (n1 : Int) ≤ (fc : Int) := by omega
        clear ho2 sl1
        cases fa with
        | none =>
          go_wp2_with fail
          try go_simp
          try go_wp2_with fail
          refine (CE.out _ _ _ S6.out).mono ?_
          rintro e w7 ⟨rfl, hb7⟩
          have B7 := hide (B6.out.trans (hb7.mono B6.out.size))
          clear hb7
          go_wp2
          go_ret2
          exact ⟨rfl, B7.out⟩
        | some fx =>
          go_wp2_with fail
          try go_simp
          try go_wp2_with fail
          refine (CE.out _ _ _ S6.out).mono ?_
          rintro e w7 ⟨rfl, hb7⟩
          have B7 := hide (B6.out.trans (hb7.mono B6.out.size))
          clear hb7
          go_wp2
          go_ret2
          exact ⟨rfl, B7.out⟩
      · subst hv
        have O2 := hide ho2
        clear ho2
        go_wp2_with (first
          | (at_builtin; refine wpList_append_own _ rfl _ _ 41 rfl w.heap.size 50 i1 (.agg #[.int .i64 0, .int .i64 0]) 2 16 Tryd.underlying41 hi1 hy0 hy1 hy2 rfl (by decide) _ _ _ rfl O1.out ⟨g, 0, none⟩ n2 cap (flat2 m) rfl (by rw [flat2_len, HM.out]) (O2.out.cells (g := g) rfl) (flat2_one m) (by unfold maxLen; omega) (by omega) B2.out.size ?_)
          | go_in)
        intro v6 w6 hown6 hgrow6 _
        have hb6 : Below w.heap.size w2 w6 := (Below.refl _ w2).grown hgrow6 B2.out.size (fun g hg => (O1.out.lt g hg).1)
        rw [← flat2_append] at hown6
        obtain ⟨v6a, v6c, rfl, sl6, _⟩ := own_formS hown6
        have S6 := hide sl6
        have B6 := hide (B2.out.trans hb6)
        clear hown6 hgrow6 sl6 hb6
        go_wp2_with fail
        refine (CE.out _ _ _ S6.out).mono ?_
        rintro e w7 ⟨rfl, hb7⟩
        have B7 := hide (B6.out.trans (hb7.mono B6.out.size))
        clear hb7
        go_wp2
        go_ret2
        exact ⟨rfl, B7.out⟩
end Go.Proofs.YtapffbbmofhpoaaDoor.L1

namespace Go.Proofs.YtapffbbmofhpoaaDoor.L1
open Go.RowKit
set_option linter.unusedVariables false

theorem size_smp : (Tryd.prog.info? 50).map (·.size) = some 2 := by kernel_rfl
theorem elem_smp : Tryd.prog.elem 41 = 50 := by kernel_rfl
theorem run_size_smp (w : World) : (sizeOf (Tryd.prog.elem 41)).run Tryd.prog w = .ok 2 w := by
  rw [elem_smp]
  cases hq : Tryd.prog.info? 50 with
  | none => have := size_smp; rw [hq] at this; cases this
  | some i =>
    have hi : i.size = 2 := by have := size_smp; rw [hq] at this; simpa using this
    simp [sizeOf, typeInfo, hq, hi]
theorem slice_toS (a : Option Addr) (n cap p : Nat) (hp : p ≤ n) (hc : n ≤ cap) (h0 : a = none → cap = 0) :
    ∃ c', ∀ w, (Instr.slice 41 (.slice a n cap) none (some (.int .i64 (p : Int))) none).run Tryd.prog w = .ok (.slice a p c') w := by
  refine ⟨cap, fun w => ?_⟩
  rw [run_slice_h w 41 a n cap (by rw [elem_smp]; exact Tryd.underlying41) .i64 (p : Int) (by omega) (by omega), run_size_smp]
  cases a with
  | none => have := h0 rfl; subst this; simp [sliced]
  | some x => obtain ⟨b, off, sp⟩ := x; simp [sliced, Addr.add]; try (split <;> simp_all)
theorem flat2_cells {w : World} {b off : Nat} {l : List (Int × Int)} (h : Sl2 w (some ⟨b, off, none⟩) l) : ∀ j u, (flat2 l)[j]? = some u → w.cell? ((⟨b, off, none⟩ : Addr).add j) = some u := fun j u hu => by
  have hj : j < l.length * 2 := by
    by_cases hj : j < l.length * 2
    · exact hj
    · rw [List.getElem?_eq_none (by rw [flat2_len]; omega)] at hu; cases hu
  have e0 : (⟨b, off, none⟩ : Addr).add j = ⟨b, off + j, none⟩ := by unfold Addr.add; split <;> simp_all
  rw [e0]
  obtain ⟨b', off', ha, h1, h2⟩ := h (j / 2) (by omega)
  cases ha
  have hf := flat2_get l (j / 2) (by omega)
  have h01 : j % 2 = 0 ∨ j % 2 = 1 := by omega
  rcases h01 with e | e
  · rw [show j / 2 * 2 = j by omega] at hf h1
    rw [h1, ← hf.1, hu]
  · rw [show j / 2 * 2 + 1 = j by omega] at hf
    rw [show off + j / 2 * 2 + 1 = off + j by omega] at h2
    rw [h2, ← hf.2, hu]
theorem own_capS {w : World} {base n cap c : Nat} {t : TypeId} {a : Option Addr} {xs : List Value} (h : w.ownsRow base t c (.slice a n cap) n xs) : n ≤ cap := by
  rcases h.2 with ⟨h, h0⟩ | ⟨g', cap', cur, e, _, _, hle, _⟩
  · omega
  · cases e; exact hle
/-- 'append' of a list behind one that is the call's own. -/
theorem wpList_append_smp {ops : Array Oper} {rest : List Oper} {o : Oper} {a : Act} {Q : Exit → Act → World → Prop} {w : World} (hw : Region.wanted o (yielded ops a.tmps) = true) (s x : Operand)
    (ho : o.op = .call { callee := .builtin .append, args := #[s, x], argTypes := #[41, 41] })
    (m base : Nat) (ad ax : Option Addr) (k cd n c : Nat) (O xs : List (Int × Int)) (hm : k + n = m) (hO : O.length = k) (hxs : xs.length = n) (hk2 : k ≤ 1048576) (hn2 : n ≤ 1048576) (hs : a.eval s = .slice ad k cd) (hown : w.ownsRow base 50 2 (.slice ad k cd) k (flat2 O)) (hx : a.eval x = .slice ax n c) (hsl : Sl2 w ax xs) (hbase : base ≤ w.heap.size)
    (h : ∀ a' c' w', w'.ownsRow base 50 2 (.slice a' m c') m (flat2 (O ++ xs)) → w.grownBy w' (Value.slice ad k cd).ownBlock → wpList Tryd.prog ops Q rest (a.put o.dst (.slice a' m c')) w') : wpList Tryd.prog ops Q (o :: rest) a w := by
  subst hm
  obtain ⟨i0, hi, hz0, hz1, hz2⟩ := info_parts info_smpS
  by_cases h0 : n = 0
  · subst h0
    have hx0 : xs = [] := List.eq_nil_of_length_eq_zero hxs
    subst hx0
    have hr : (Builtin.append_ #[41, 41] o.type #[.slice ad k cd, .slice ax 0 c]).run Tryd.prog w = .ok (.slice ad k cd) w := by
      refine run_append_nothing w 41 41 o.type 50 i0 Tryd.underlying41 hi ad k cd (own_capS hown) _ ?_
      cases ax with
      | none => exact Src.ofNil _ Tryd.underlying41 c
      | some x => exact Src.ofSlice _ Tryd.underlying41 x 0 c [] (by simp) (fun j u hu => by simp at hu) (fun u hu => by simp at hu)
    refine wpList_step fun K hK => ?_
    rw [if_pos hw]
    unfold Oper.wp execOp
    simp only [ho, resolve, invoke, builtin, Sem.run_bind, Sem.run_pure, Result.andThen_ok, List.map_toArray, List.map_cons, List.map_nil, hs, hx, hr]
    exact hK _ _ (h ad cd w (by simpa using hown) (World.grownBy.refl _ _))
  · obtain ⟨b, off, rfl, _⟩ := hsl 0 (by omega)
    refine wpList_step fun K hK => ?_
    rw [if_pos hw]
    refine wp_append_lies w s x 41 ho base 50 i0 (.agg #[.int .i64 0, .int .i64 0]) 2 16 Tryd.underlying41 hi hz0 hz1 hz2 rfl (by decide) (.slice ad k cd) k (flat2 O) hs hown ⟨b, off, none⟩ n c (flat2 xs) hx (by rw [flat2_len]; omega) (flat2_cells hsl) (flat2_one xs) (by omega) (by unfold maxLen; omega) (by omega) hbase _ rfl ?_
    intro g' c' w' h1 h2 _ _
    rw [← flat2_append] at h1
    exact hK _ _ (h (some ⟨g', 0, none⟩) c' w' h1 h2)
theorem own_emptyS (w : World) (base : Nat) (hb : base ≤ w.heap.size) : (w.alloc (.cells #[] 50)).ownsRow base 50 2 (.slice (some ⟨w.heap.size, 0, none⟩) 0 0) 0 (flat2 []) :=
  ⟨rfl, .inr ⟨w.heap.size, 0, #[], rfl, hb, (by show (w.heap.push _)[w.heap.size]? = _; exact Array.getElem?_push_size), Nat.le_refl _, by unfold maxLen; omega, rfl, rfl⟩⟩
end Go.Proofs.YtapffbbmofhpoaaDoor.L1

namespace Go.Proofs.YtapffbbmofhpoaaDoor.L1
open Go.RowKit
set_option linter.unusedVariables false

set_option maxRecDepth 100000 in
set_option maxHeartbeats 1000000 in
theorem numberOf_any (a : Option Addr) (n cap : Nat) (w : World) (h : Slb w w.heap.size a n) (hn : n ≤ 1048576) :
    Calls Tryd.prog 53 #[.slice a n cap] w fun e w' => (∃ x : Int, e = .returned (.int .i64 x) ∧ 0 ≤ x ∧ x < 1000003) ∧ w = w' := by
  have HS := hide h
  clear h
  go_enter Tryd.func53, Tryd.ntmps53
  go_wp2
  go_loop [3, 8] (fun m i => ∃ (k : Nat) (x : Int), k ≤ n ∧ i = .int .i64 k ∧ m = .int .i64 x ∧ 0 ≤ x ∧ x < 1000003) (fun _ i => n - (intOf i).toNat)
  case atStart => exact ⟨0, 0, Nat.zero_le _, rfl, rfl, by omega, by omega⟩
  case round =>
    obtain ⟨k, x, hk, rfl, rfl, hx0, hx1⟩ := hrel
    by_cases hlt : k < n
    · obtain ⟨bb, off, y, rfl, hbb, hc, hy0, hy1⟩ := HS.out k hlt
      have hltI : (k : Int) < (n : Int) := by omega
      have hq : Int.tmod (31 * x + y) 1000003 = (31 * x + y) % 1000003 := Int.tmod_eq_emod_of_nonneg (by omega)
      obtain ⟨z, hz⟩ : ∃ z, z = (31 * x + y) % 1000003 := ⟨_, rfl⟩
      have hz0 : 0 ≤ z ∧ z < 1000003 := by omega
      rw [← hz] at hq
      clear hz
      go_wp2
      go_round
      case rel => exact ⟨k + 1, z, by omega, by go_num, rfl, hz0.1, hz0.2⟩
      case measure => simp [intOf]; omega
    · have hltI : ¬ (k : Int) < (n : Int) := by omega
      go_wp2
      go_ret
      exact ⟨⟨x, rfl, hx0, hx1⟩, rfl⟩
end Go.Proofs.YtapffbbmofhpoaaDoor.L1
