/-
  Contract: impl.ReadLabels.
-/
import Derived.Test.YthagpceagifjnaaDoorL3Range
import Derived.Test.YthagpceagifjnaaDoorL3Brace
import Derived.Test.YthagpceagifjnaaDoorL3Good
import Derived.Test.YthagpceagifjnaaDoorL3SRead
namespace Go.Proofs.YthagpceagifjnaaDoor.L3
open Go.RowKit Go.Shelf L1
attribute [local go_sem] Oper.semAt_some
set_option linter.unusedVariables false

theorem inr_two (s : ByteArray) (h : s.size = 2) : inr s = ByteArray.empty := by
  unfold inr
  rw [h]
  apply ByteArray.ext
  simp
set_option maxRecDepth 100000 in
set_option maxHeartbeats 1000000 in
theorem implRead_bad (s : ByteArray) (w : World) (hs : s.size ≤ 1048576) (hb : ¬ Br s) :
    Calls Tryd.prog 63 #[.string s] w fun e w' => RetLb w none e w' := by
  have C1 := hide (fun w => between_no s w hs hb)
  clear hb
  go_enter Tryd.func63, Tryd.ntmps63
  go_wp2_with fail
  refine (C1.out _).mono ?_
  rintro e w1 ⟨⟨x, rfl⟩, rfl⟩
  go_wp2
  refine bodyPost_ret (v := .tuple #[.slice none 0 0, .bool false]) (by simp [results, Tryd.f63, go_sem]) rfl ?_
  exact retLb_none (((Below.refl _ _).alloc (Nat.le_refl _) _).alloc (by simp) _)
set_option maxRecDepth 100000 in
set_option maxHeartbeats 1000000 in
theorem implRead_two (s : ByteArray) (w : World) (hb : Br s) (h2 : s.size = 2) :
    Calls Tryd.prog 63 #[.string s] w fun e w' => RetLb w (some []) e w' := by
  have c1 := fun w => between_yes s w (by omega) hb
  rw [inr_two s h2] at c1
  have C1 := hide c1
  clear hb c1 h2
  go_enter Tryd.func63, Tryd.ntmps63
  go_wp2_with fail
  refine (C1.out _).mono ?_
  rintro e w1 ⟨rfl, rfl⟩
  go_wp2
  refine bodyPost_ret (v := .tuple #[.slice none 0 0, .bool true]) (by simp [results, Tryd.f63, go_sem]) rfl ?_
  exact ⟨_, rfl, World.ownsRow_nil _ _ _ _, ((Below.refl _ _).alloc (Nat.le_refl _) _).alloc (by simp) _⟩
/-- What the rounds keep. -/
structure RdI (w : World) (pre : List ByteArray) (W : World) : Prop where
  marks : ∀ p ∈ pre, Lib.indexByte p.data.toList 61 ≠ -1
  few : pre.length ≤ 6
  r0 : Boxed W w.heap.size 61 (.slice none 0 0)
  r1 : Boxed W (w.heap.size + 1) 4 (.bool false)
  out : ∃ v, Boxed W (w.heap.size + 2) 61 v ∧ W.ownsRow w.heap.size 105 2 v pre.length (flatL (pre.map cutD)) ∧ True
  it : ∃ x, It3 (w.heap.size + 3) 44 x W
  bel : Below w.heap.size w W
theorem rdI_own (w : World) (B : Nat) (hB : w.heap.size ≤ B) : OwnFrom B (RdI w) := fun pre A C row h hg hr => by
  have hr' : ∀ r, row = some r → ∃ o : Obj, A.heap[r]? = some o ∧ o.isCells = false := fun r e => (hr r e).2
  obtain ⟨x, hx⟩ := h.it
  refine ⟨h.marks, h.few, boxed_own _ _ (fun _ : List ByteArray => .slice none 0 0) pre A C row h.r0 hg hr', boxed_own _ _ (fun _ : List ByteArray => .bool false) pre A C row h.r1 hg hr',
    holdsRow_own w.heap.size (w.heap.size + 2) 61 105 2 (fun pre : List ByteArray => pre.length) (fun pre => flatL (pre.map cutD)) (fun _ _ => True) pre A C row h.out hg hr',
    ⟨x, boxed_own _ _ (fun _ : List ByteArray => .string x) pre A C row hx.cur hg hr', boxed_own _ _ (fun _ : List ByteArray => .string ⟨#[44]⟩) pre A C row hx.sep hg hr', boxed_own _ _ (fun _ : List ByteArray => .int .i64 0) pre A C row hx.sav hg hr'⟩, ?_⟩
  exact ownFrom_below (Nat.le_refl _) hB pre A C row h.bel hg hr
theorem rdI_set (w : World) (pre : List ByteArray) (A : World) (y : ByteArray) (h : RdI w pre A) : RdI w pre (A.setCell ⟨w.heap.size + 3, 0, none⟩ (.string y)) := by
  obtain ⟨x, hx⟩ := h.it
  obtain ⟨v, hv, hrow, _⟩ := h.out
  exact ⟨h.marks, h.few, h.r0.other (by omega) _, h.r1.other (by omega) _, ⟨v, hv.other (by omega) _, hrow.kept (grownBy_setCell' A (w.heap.size + 3) (.string y)) (.inr (hx.cur.not_row (by decide) hrow).symm), trivial⟩, ⟨y, hx.set y⟩, h.bel.setCell (p := ⟨w.heap.size + 3, 0, none⟩) (by show w.heap.size ≤ w.heap.size + 3; omega) _⟩
/-- Where a round leaves. -/
structure RdX (w : World) (pre : List ByteArray) (W : World) : Prop where
  why : (∃ p ∈ pre, Lib.indexByte p.data.toList 61 = -1) ∨ 6 < pre.length
  r0 : Boxed W w.heap.size 61 (.slice none 0 0)
  r1 : Boxed W (w.heap.size + 1) 4 (.bool false)
  bel : Below w.heap.size w W
theorem RdI.leave {w : World} {pre : List ByteArray} {W : World} (h : RdI w pre W) (q : List ByteArray) (hq : (∃ p ∈ q, Lib.indexByte p.data.toList 61 = -1) ∨ 6 < q.length) : RdX w q ((W.setCell ⟨w.heap.size, 0, none⟩ (.slice none 0 0)).setCell ⟨w.heap.size + 1, 0, none⟩ (.bool false)) :=
  ⟨hq, (h.r0.set _).other (by omega) _, (h.r1.other (by omega) _).set _, (h.bel.setCell (p := ⟨w.heap.size, 0, none⟩) (Nat.le_refl _) _).setCell (p := ⟨w.heap.size + 1, 0, none⟩) (by simp) _⟩
theorem RdI.drew {w : World} {pre : List ByteArray} {W : World} (h : RdI w pre W) : RdI w pre W.drew := by
  obtain ⟨v, hv, hrow, _⟩ := h.out
  obtain ⟨x, hx⟩ := h.it
  exact ⟨h.marks, h.few, h.r0, h.r1, ⟨v, hv, hrow, trivial⟩, ⟨x, hx.cur, hx.sep, hx.sav⟩, h.bel.drew⟩
theorem cutD_at (y : ByteArray) (i : Nat) (hi : Lib.indexByte y.data.toList 61 = i) : cutD y = (y.extract 0 i, y.extract (i + 1) y.size) := by unfold cutD; rw [hi]; rfl
/-- One label more. -/
theorem RdI.more {w : World} {pre : List ByteArray} {W w1 : World} {va : Option Addr} {vcap g' cap' : Nat} {tmp : Obj} (h : RdI w pre W) (hl : pre.length ≠ 6) (y : ByteArray) (i : Nat) (hi : Lib.indexByte y.data.toList 61 = i)
    (hv : Boxed W (w.heap.size + 2) 61 (.slice va pre.length vcap)) (hrow : W.ownsRow w.heap.size 105 2 (.slice va pre.length vcap) pre.length (flatL (pre.map cutD)))
    (hown : w1.ownsRow w.heap.size 105 2 (.slice (some ⟨g', 0, none⟩) (pre.length + 1) cap') (pre.length + 1) (flatL (pre.map cutD) ++ [.string (y.extract 0 i), .string (y.extract (i + 1) y.size)]))
    (hg : (W.alloc tmp).grownBy w1 (Value.slice va pre.length vcap).ownBlock) :
    Boxed w1 (w.heap.size + 2) 61 (.slice va pre.length vcap) ∧ KeepsOthers W (w1.setCell ⟨w.heap.size + 2, 0, none⟩ (.slice (some ⟨g', 0, none⟩) (pre.length + 1) cap')) ∧
    Kp3 (w.heap.size + 3) W (w1.setCell ⟨w.heap.size + 2, 0, none⟩ (.slice (some ⟨g', 0, none⟩) (pre.length + 1) cap')) ∧
    RdI w (pre ++ [y]) (w1.setCell ⟨w.heap.size + 2, 0, none⟩ (.slice (some ⟨g', 0, none⟩) (pre.length + 1) cap')) := by
  obtain ⟨x, hx⟩ := h.it
  obtain ⟨hv1, hv2, hr2, hk2, hb2⟩ := hv.appended (by decide) hrow h.bel.size (by omega) hown hg
  have hz : It3 (w.heap.size + 3) 44 x (w1.setCell ⟨w.heap.size + 2, 0, none⟩ (.slice (some ⟨g', 0, none⟩) (pre.length + 1) cap')) :=
    ⟨((hx.cur.alloc tmp).kept hg (hx.cur.not_row (by decide) hrow)).other (by omega) _, ((hx.sep.alloc tmp).kept hg (hx.sep.not_row (by decide) hrow)).other (by omega) _, ((hx.sav.alloc tmp).kept hg (hx.sav.not_row (by decide) hrow)).other (by omega) _⟩
  have hf := h.few
  refine ⟨hv1, hk2, fun k h1 h2 => ?_, ⟨?_, by simp; omega, ((h.r0.alloc tmp).kept hg (h.r0.not_row (by decide) hrow)).other (by omega) _, ((h.r1.alloc tmp).kept hg (h.r1.not_row (by decide) hrow)).other (by omega) _, ⟨_, hv2, ?_, trivial⟩, ⟨x, hz⟩, h.bel.trans hb2⟩⟩
  · have hk : k = w.heap.size + 3 ∨ k = w.heap.size + 3 + 1 ∨ k = w.heap.size + 3 + 2 := by omega
    rcases hk with rfl | rfl | rfl
    · exact hz.cur.trans hx.cur.symm
    · exact hz.sep.trans hx.sep.symm
    · exact hz.sav.trans hx.sav.symm
  · intro p hp
    rcases List.mem_append.1 hp with hp | hp
    · exact h.marks p hp
    · simp at hp; rw [hp, hi]; omega
  · have e : flatL ((pre ++ [y]).map cutD) = flatL (pre.map cutD) ++ [.string (y.extract 0 i), .string (y.extract (i + 1) y.size)] := by
      rw [List.map_append, List.map_cons, List.map_nil, cutD_at y i hi, flatL_append]; rfl
    rw [e, List.length_append]
    exact hr2
theorem rdX_own (w : World) (B : Nat) (hB : w.heap.size ≤ B) : OwnFrom B (RdX w) := fun pre A C row h hg hr => by
  have hr' : ∀ r, row = some r → ∃ o : Obj, A.heap[r]? = some o ∧ o.isCells = false := fun r e => (hr r e).2
  exact ⟨h.why, boxed_own _ _ (fun _ : List ByteArray => .slice none 0 0) pre A C row h.r0 hg hr', boxed_own _ _ (fun _ : List ByteArray => .bool false) pre A C row h.r1 hg hr', ownFrom_below (Nat.le_refl _) hB pre A C row h.bel hg hr⟩

open Classical in
set_option maxRecDepth 100000 in
set_option maxHeartbeats 2000000 in
theorem implRead_more (s : ByteArray) (w : World) (hb : Br s) (h3 : 2 < s.size) (hs : s.size ≤ 1048576) (r : Option (List Lb)) (hr : r = imRes s) :
    Calls Tryd.prog 63 #[.string s] w fun e w' => RetLb w r e w' := by
  have C1 := hide (fun m w => (callsIn_wide (n := m)).2 (between_yes s w hs hb))
  have hps : ps s = parts 44 (inr s) := by unfold ps; rw [if_neg (by omega)]
  have hzi := inr_size s hb.1
  obtain ⟨x, hx⟩ : ∃ x, x = inr s := ⟨_, rfl⟩
  rw [← hx] at hps hzi C1
  have hrr : r = if (∀ p ∈ parts 44 x, Lib.indexByte p.data.toList 61 ≠ -1) ∧ (parts 44 x).length ≤ 6 ∧ GoodL ((parts 44 x).map cutD) then some ((parts 44 x).map cutD) else none := by
    rw [hr]; unfold imRes
    rw [hps]
    by_cases h : (∀ p ∈ parts 44 x, Lib.indexByte p.data.toList 61 ≠ -1) ∧ (parts 44 x).length ≤ 6 ∧ GoodL ((parts 44 x).map cutD)
    · rw [if_pos ⟨hb, h⟩, if_pos h]
    · rw [if_neg (fun h' => h h'.2), if_neg h]
  have HRR := hide hrr
  have hx1 : 0 < x.size := by omega
  have hx2 : x.size ≤ 1048576 := by omega
  have hxe : x.toList.isEmpty = false := by
    cases h : x.toList with
    | nil =>
      have := congrArg List.length h
      rw [Lib.toList_data, ← Lib.size_eq, List.length_nil] at this
      omega
    | cons b l => rfl
  have C2 := hide (fun m w => (callsIn_wide (n := m)).2 (splitSeq_any x 44 w))
  clear hr hrr hps hzi hb hx
  refine (callsIn_wide (n := 3)).1 ?_
  refine callsIn_of_wp_marks Tryd.func63 rfl trivial ?_ rfl
  simp only [Tryd.ntmps63, List.size_toArray, List.length_cons, List.length_nil, Nat.reduceAdd, Nat.reduceSub, Array.replicate_succ, Array.replicate_zero, List.push_toArray, List.append_toArray, List.nil_append, List.cons_append]
  gi_wp2_with fail
  refine ⟨trivial, (C1.out _ _).mono ?_⟩
  rintro e w1 ⟨rfl, rfl⟩
  gi_wp2_with fail
  refine ⟨trivial, (C2.out _ _).mono ?_⟩
  rintro e w1 ⟨rfl, rfl⟩
  gi_wp2
  have bA := Boxed.new w 61 (.slice none 0 0)
  have bB := Boxed.new (w.alloc (.cells #[.slice none 0 0] 61)) 4 (.bool false)
  have bC := Boxed.new ((w.alloc (.cells #[.slice none 0 0] 61)).alloc (.cells #[.bool false] 4)) 61 (.slice none 0 0)
  have bD := Boxed.new (((w.alloc (.cells #[.slice none 0 0] 61)).alloc (.cells #[.bool false] 4)).alloc (.cells #[.slice none 0 0] 61)) 9 (.string x)
  have bE := Boxed.new ((((w.alloc (.cells #[.slice none 0 0] 61)).alloc (.cells #[.bool false] 4)).alloc (.cells #[.slice none 0 0] 61)).alloc (.cells #[.string x] 9)) 9 (.string ⟨#[44]⟩)
  have bF := Boxed.new (((((w.alloc (.cells #[.slice none 0 0] 61)).alloc (.cells #[.bool false] 4)).alloc (.cells #[.slice none 0 0] 61)).alloc (.cells #[.string x] 9)).alloc (.cells #[.string ⟨#[44]⟩] 9)) 3 (.int .i64 0)
  simp only [World.size_alloc] at bB bC bD bE bF
  have hit : It3 (w.heap.size + 3) 44 x ((((((w.alloc (.cells #[.slice none 0 0] 61)).alloc (.cells #[.bool false] 4)).alloc (.cells #[.slice none 0 0] 61)).alloc (.cells #[.string x] 9)).alloc (.cells #[.string ⟨#[44]⟩] 9)).alloc (.cells #[.int .i64 0] 3)) := ⟨(bD.alloc _).alloc _, bE.alloc _, bF⟩
  have hB0 : Below w.heap.size w ((((((w.alloc (.cells #[.slice none 0 0] 61)).alloc (.cells #[.bool false] 4)).alloc (.cells #[.slice none 0 0] 61)).alloc (.cells #[.string x] 9)).alloc (.cells #[.string ⟨#[44]⟩] 9)).alloc (.cells #[.int .i64 0] 3)) := ((((((Below.refl _ w).alloc (Nat.le_refl _) _).alloc (by simp) _).alloc (by simp; omega) _).alloc (by simp; omega) _).alloc (by simp; omega) _).alloc (by simp; omega) _
  have hI0 : RdI w [] ((((((w.alloc (.cells #[.slice none 0 0] 61)).alloc (.cells #[.bool false] 4)).alloc (.cells #[.slice none 0 0] 61)).alloc (.cells #[.string x] 9)).alloc (.cells #[.string ⟨#[44]⟩] 9)).alloc (.cells #[.int .i64 0] 3)) :=
    ⟨by simp, by simp, ((((bA.alloc _).alloc _).alloc _).alloc _).alloc _, (((bB.alloc _).alloc _).alloc _).alloc _, ⟨_, ((bC.alloc _).alloc _).alloc _, World.ownsRow_nil _ _ _ _, trivial⟩, ⟨x, hit⟩, hB0⟩
  clear bA bB bC bD bE bF
  refine range_split (n := 3) (by omega) (w.heap.size + 3) x 44 hx2 rfl hit rfl (RdI w) (RdX w) (rdI_own w _ (by simp; omega)) (fun pre A y h => rdI_set w pre A y h) (rdX_own w _ (by simp; omega)) hI0
    (fun y => { tmps := #[.string s, undef, .pointer (some ⟨w.heap.size, 0, none⟩), .pointer (some ⟨w.heap.size + 1, 0, none⟩), .string x, .bool true, .pointer (some ⟨w.heap.size + 1 + 1, 0, none⟩), .string y, undef, undef, undef, .tuple #[.string x, .bool true], .string s, .tuple #[.string x, .bool true], .string x, .bool true, .bool true, .bool false, .string x, .bool false, .string x, seqV (w.heap.size + 3), .string y, undef, undef, undef, undef, undef, undef, undef, undef, undef, undef, undef, undef, undef, undef, undef, undef, undef, undef, undef, undef, undef, undef, undef], defers := [] }) ?assign ?body ?done ?stop
  case assign =>
    intro l y W K hK
    gi_wp2
    exact hK
  case body =>
    obtain ⟨i1, hi1, hy0, hy1, hy2⟩ := info_parts info_lab
    rintro l pre y W hI hpre
    obtain ⟨z, hz⟩ := hI.it
    obtain ⟨v, hv, hrow, _⟩ := hI.out
    have hym : y ∈ parts 44 x := hpre.subset (by simp)
    have hys : y.size ≤ 1048577 := by
      have := mem_sum _ y hym
      rw [← parts_size 44 x] at this
      omega
    have hA := hI.r0
    have hB := hI.r1
    have hcA := hA.cell
    have hfA := hA.frozen
    have hcB := hB.cell
    have hfB := hB.frozen
    have hsz := hI.bel.size
    rcases idx_parts 61 y with ⟨hi, _⟩ | ⟨i, hi, hil, _⟩
    · have C3 := hide (fun m w => CallsIn.inRound l ((callsIn_wide (n := m)).2 (cut_miss y 61 w hi)))
      have HX := hI.leave (pre ++ [y]) (.inl ⟨y, by simp, hi⟩)
      gi_wp2_with fail
      refine ⟨trivial, (C3.out _ _).mono ?_⟩
      rintro e w3 ⟨rfl, rfl⟩
      gi_wp2
      exact ⟨((KeepsOthers.setCell _ _ _).trans (KeepsOthers.setCell _ _ _)).from _, rfl, HX⟩
    · have C3 := hide (fun m w => CallsIn.inRound l ((callsIn_wide (n := m)).2 (cut_hit y 61 w i hi hil (by omega))))
      obtain ⟨va, vcap, rfl, _, hvl⟩ := own_formL hrow
      have hpl : pre.length ≤ 6 := hI.few
      have hc := hv.cell
      have hfv := hv.frozen
      by_cases h6 : pre.length = 6
      · have HX := hI.drew.leave (pre ++ [y]) (.inr (by simp; omega))
        have h6I : (pre.length : Int) = 6 := by omega
        gi_wp2_with fail
        refine ⟨trivial, (C3.out _ _).mono ?_⟩
        rintro e w3 ⟨rfl, rfl⟩
        gi_wp2
        exact ⟨((KeepsOthers.drew W).trans ((KeepsOthers.setCell _ _ _).trans (KeepsOthers.setCell _ _ _))).from _, rfl, HX⟩
      · have h6I : ((pre.length : Int) == 6) = false := by simp only [beq_eq_false_iff_ne]; omega
        have MR := hide (fun w1 g' cap' tmp (h1 : _) (h2 : _) => RdI.more (w1 := w1) (va := va) (vcap := vcap) (g' := g') (cap' := cap') (tmp := tmp) hI.drew h6 y i hi hv hrow h1 h2)
        gi_wp2_with fail
        refine ⟨trivial, (C3.out _ _).mono ?_⟩
        rintro e w3 ⟨rfl, rfl⟩
        gi_wp2_with (gi_at_builtin; refine wpListIn_append_own _ rfl _ _ 61 rfl w.heap.size 105 i1 (.agg #[.string ByteArray.empty, .string ByteArray.empty]) 2 32 Tryd.underlying61 hi1 hy0 hy1 hy2 rfl (by decide) _ _ _ rfl (hrow.alloc (.cells #[.string (y.extract 0 i), .string (y.extract (i + 1) y.size)] 105)) ⟨W.heap.size, 0, none⟩ 1 1 [.string (y.extract 0 i), .string (y.extract (i + 1) y.size)] rfl rfl (cell_two_newR W _ _ _) (by intro u hu; simp at hu; rcases hu with rfl | rfl <;> rfl) (by unfold maxLen; omega) (by omega) (by simp; omega) ?_; intro v' w1 hown' hgrow _; obtain ⟨g', cap', rfl⟩ := ownsRow_succ hown'; obtain ⟨hv1, m1, m2, m3⟩ := MR.out w1 g' cap' _ hown' hgrow; have hc1 := hv1.cell; have hf1 := hv1.frozen)
        exact ⟨((KeepsOthers.drew W).trans m1).from _, m2, m3⟩
  case done =>
    rintro D W hD hI hK
    obtain ⟨v, hv, hrow, _⟩ := hI.out
    obtain ⟨va, vcap, rfl, hsl, hln⟩ := own_formL hrow
    obtain ⟨L, hL⟩ : ∃ L, L = parts 44 x := ⟨_, rfl⟩
    rw [← hL] at hI hrow hv hln hsl HRR
    have hlen : L.length ≤ 6 := hI.few
    have hst : ∀ j, j < (L.map cutD).length → ((L.map cutD).getD j eL).1.size ≤ 9223372036854775807 ∧ ((L.map cutD).getD j eL).2.size ≤ 9223372036854775807 := fun j hj => by
      rw [List.length_map] at hj
      rw [getD_mapL cutD L j hj]
      have hm : L.getD j eX ∈ parts 44 x := by rw [← hL]; simp [List.getD, List.getElem?_eq_getElem hj]
      have := mem_sum _ _ hm
      rw [← parts_size 44 x] at this
      unfold cutD
      simp only [ByteArray.size_extract]
      omega
    have C4 := hide (fun bb hbb m => (callsIn_wide (n := m)).2 (goodLabels_any va (L.map cutD) L.length vcap W hln hsl (by omega) hst bb hbb))
    have hcv := hv.cell
    have hDW : D < W.heap.size := (Array.getElem?_eq_some_iff.1 hK).1
    have hsz := hI.bel.size
    have hb2 : w.heap.size + 2 < W.heap.size := hv.lt
    clear hst hsl hit hB0 hI0 hL
    by_cases hg : GoodL (L.map cutD)
    · have er : r = some (L.map cutD) := by rw [HRR.out, if_pos ⟨hI.marks, hlen, hg⟩]
      have C5 := hide (C4.out true (by simp [hg]))
      have HER := hide er
      clear er hg C4
      gi_wp2_with fail
      refine ⟨trivial, (C5.out _).mono ?_⟩
      rintro e w3 ⟨rfl, hb3⟩
      have kA : Boxed w3 w.heap.size 61 (.slice none 0 0) := (hb3.block _ (by omega)).trans hI.r0
      have kB : Boxed w3 (w.heap.size + 1) 4 (.bool false) := (hb3.block _ (by omega)).trans hI.r1
      have kv : Boxed w3 (w.heap.size + 2) 61 (.slice va L.length vcap) := (hb3.block _ (by omega)).trans hv
      have hK3 : w3.heap[D]? = some (.deferred (some [])) := (hb3.block _ hDW).trans hK
      have hr3 := own_belowT hrow hb3
      have hB3 := hI.bel.trans (hb3.mono hsz)
      have hc := kv.cell
      have hcA := kA.cell
      have hfA := kA.frozen
      have hB1 := kB.other (B' := w.heap.size) (by omega) (.slice va L.length vcap)
      have hcB := hB1.cell
      have hfB := hB1.frozen
      have hA2 := (kA.set (.slice va L.length vcap)).other (B' := w.heap.size + 1) (by omega) (.bool true)
      have hB2 := hB1.set (.bool true)
      have hr4 := (hr3.kept (grownBy_setCell' w3 w.heap.size (.slice va L.length vcap)) (.inr (kA.not_row (by decide) hr3).symm))
      have hr5 := (hr4.kept (grownBy_setCell' _ (w.heap.size + 1) (.bool true)) (.inr (hB1.not_row (by decide) hr4).symm))
      have hK4 := ((KeepsOthers.setCell w3 ⟨w.heap.size, 0, none⟩ (.slice va L.length vcap)).trans (KeepsOthers.setCell _ ⟨w.heap.size + 1, 0, none⟩ (.bool true))).same D _ hK3 rfl
      have hb4 := (hB3.setCell (p := ⟨w.heap.size, 0, none⟩) (Nat.le_refl _) (.slice va L.length vcap)).setCell (p := ⟨w.heap.size + 1, 0, none⟩) (by simp) (.bool true)
      gi_wp2
      refine ⟨by simp, .inl ⟨_, _, rfl, run_takeDeferred hK4, ?_⟩⟩
      have c5 := cell_kept hA2.cell (grownBy_putObj' _ D (.deferred none)) (fun r e => by cases e; exact ⟨_, hK4, rfl⟩)
      have c6 := cell_kept hB2.cell (grownBy_putObj' _ D (.deferred none)) (fun r e => by cases e; exact ⟨_, hK4, rfl⟩)
      refine ⟨.tuple #[.slice va L.length vcap, .bool true], ?_, .slice va L.length vcap, by rw [HER.out]; rfl, by rw [HER.out]; simpa using ownsRow_putObj hr5 _ hK4 rfl, hb4.trans (belowK_b (w := w) (Nat.le_refl _) _ D _ _ (by simp at hD; omega) hK4 rfl rfl)⟩
      simp [results, Tryd.f63, go_sem, c5, c6]
    · have er : r = none := by rw [HRR.out, if_neg (fun h => hg h.2.2)]
      have C5 := hide (C4.out false (by simp [hg]))
      have HER := hide er
      clear er hg C4
      gi_wp2_with fail
      refine ⟨trivial, (C5.out _).mono ?_⟩
      rintro e w3 ⟨rfl, hb3⟩
      have kA : Boxed w3 w.heap.size 61 (.slice none 0 0) := (hb3.block _ (by omega)).trans hI.r0
      have kB : Boxed w3 (w.heap.size + 1) 4 (.bool false) := (hb3.block _ (by omega)).trans hI.r1
      have hK3 : w3.heap[D]? = some (.deferred (some [])) := (hb3.block _ hDW).trans hK
      have hB3 := hI.bel.trans (hb3.mono hsz)
      have hcA := kA.cell
      have hfA := kA.frozen
      have hB1 := kB.other (B' := w.heap.size) (by omega) (.slice none 0 0)
      have hcB := hB1.cell
      have hfB := hB1.frozen
      have hA2 := (kA.set (.slice none 0 0)).other (B' := w.heap.size + 1) (by omega) (.bool false)
      have hB2 := hB1.set (.bool false)
      have hK4 := ((KeepsOthers.setCell w3 ⟨w.heap.size, 0, none⟩ (.slice none 0 0)).trans (KeepsOthers.setCell _ ⟨w.heap.size + 1, 0, none⟩ (.bool false))).same D _ hK3 rfl
      have hb4 := (hB3.setCell (p := ⟨w.heap.size, 0, none⟩) (Nat.le_refl _) (.slice none 0 0)).setCell (p := ⟨w.heap.size + 1, 0, none⟩) (by simp) (.bool false)
      gi_wp2
      refine ⟨by simp, .inl ⟨_, _, rfl, run_takeDeferred hK4, ?_⟩⟩
      have c5 := cell_kept hA2.cell (grownBy_putObj' _ D (.deferred none)) (fun r e => by cases e; exact ⟨_, hK4, rfl⟩)
      have c6 := cell_kept hB2.cell (grownBy_putObj' _ D (.deferred none)) (fun r e => by cases e; exact ⟨_, hK4, rfl⟩)
      refine ⟨.tuple #[.slice none 0 0, .bool false], ?_, by rw [HER.out]; exact retLb_none (hb4.trans (belowK_b (w := w) (Nat.le_refl _) _ D _ _ (by simp at hD; omega) hK4 rfl rfl))⟩
      simp [results, Tryd.f63, go_sem, c5, c6]
  case stop =>
    rintro D pre W hD hpre hX hK
    gi_wp2
    refine ⟨by simp, .inl ⟨_, _, rfl, run_takeDeferred hK, ?_⟩⟩
    have c5 := cell_kept hX.r0.cell (grownBy_putObj' _ D (.deferred none)) (fun r e => by cases e; exact ⟨_, hK, rfl⟩)
    have c6 := cell_kept hX.r1.cell (grownBy_putObj' _ D (.deferred none)) (fun r e => by cases e; exact ⟨_, hK, rfl⟩)
    have er : r = none := by
      rw [HRR.out, if_neg]
      rintro ⟨h1, h2, _⟩
      rcases hX.why with ⟨p, hp, hpi⟩ | h
      · exact h1 p (hpre.subset hp) hpi
      · have := hpre.length_le; omega
    refine ⟨.tuple #[.slice none 0 0, .bool false], ?_, by rw [er]; exact retLb_none (hX.bel.trans (belowK_b (w := w) (Nat.le_refl _) W D _ _ (by simp at hD; omega) hK rfl rfl))⟩
    simp [results, Tryd.f63, go_sem, c5, c6]
theorem implRead_any (s : ByteArray) (w : World) (hs : s.size ≤ 1048576) : Calls Tryd.prog 63 #[.string s] w fun e w' => RetLb w (rdRes s) e w' := by
  rw [← im_rd]
  by_cases hb : Br s
  · by_cases h2 : s.size = 2
    · have hps : ps s = [] := by unfold ps; rw [if_pos (by omega)]
      have : imRes s = some [] := by
        unfold imRes; rw [hps]
        rw [if_pos ⟨hb, by simp, by simp, gL_nil⟩]; rfl
      rw [this]
      exact implRead_two s w hb h2
    · exact implRead_more s w hb (by have := hb.1; omega) hs _ rfl
  · have : imRes s = none := by unfold imRes; rw [if_neg (fun h => hb h.1)]
    rw [this]
    exact implRead_bad s w hs hb
end Go.Proofs.YthagpceagifjnaaDoor.L3
