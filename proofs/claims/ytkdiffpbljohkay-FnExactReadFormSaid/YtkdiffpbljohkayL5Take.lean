/-
  Contracts: strings.HasPrefix, (*impl.formReader).take: a byte is taken where it stands.
-/
import Derived.Test.YtkdiffpbljohkayL5Parse
import Derived.Test.YtkdiffpbljohkayL5Grow
import Derived.Test.YtkdiffpbljohkayL5Shape
import Derived.Deep.RegionHeld3
namespace Go.Proofs.Ytkdiffpbljohkay.L5
open Go.RowKit L1 L4
set_option linter.unusedVariables false

/-- A reader's block. -/
def RB (w : World) (g : Nat) (s : ByteArray) (k : Nat) (o : Int) : Prop := w.heap[g]? = some (.cells #[.string s, .int .i64 (k : Int), .int .i64 o] 74 (0, 0))
theorem RB.lt {w : World} {g k : Nat} {s : ByteArray} {o : Int} (h : RB w g s k o) : g < w.heap.size := (Array.getElem?_eq_some_iff.1 h).1
theorem RB.s {w : World} {g k : Nat} {s : ByteArray} {o : Int} (h : RB w g s k o) : w.cell? ⟨g, 0, none⟩ = some (.string s) := Lib.cell_of_heap h 0
theorem RB.k {w : World} {g k : Nat} {s : ByteArray} {o : Int} (h : RB w g s k o) : w.cell? ⟨g, 1, none⟩ = some (.int .i64 (k : Int)) := Lib.cell_of_heap h 1
theorem RB.o {w : World} {g k : Nat} {s : ByteArray} {o : Int} (h : RB w g s k o) : w.cell? ⟨g, 2, none⟩ = some (.int .i64 o) := Lib.cell_of_heap h 2
theorem RB.frozen {w : World} {g k : Nat} {s : ByteArray} {o : Int} (h : RB w g s k o) (j : Nat) : w.frozen? ⟨g, j, none⟩ = false := Lib.frozen_of_heap h j
theorem RB.below {w w' : World} {g k : Nat} {s : ByteArray} {o : Int} (h : RB w g s k o) (hb : Below w.heap.size w w') : RB w' g s k o := (hb.block g h.lt).trans h
theorem RB.setK {w : World} {g k : Nat} {s : ByteArray} {o : Int} (h : RB w g s k o) (y : Nat) : RB (w.setCell ⟨g, 1, none⟩ (.int .i64 (y : Int))) g s y o := by
  have h1 := heap_setCell_same w g 1 _ _ (.int .i64 (y : Int)) h
  unfold RB
  rw [h1]
  rfl
theorem RB.setO {w : World} {g k : Nat} {s : ByteArray} {o : Int} (h : RB w g s k o) (y : Int) : RB (w.setCell ⟨g, 2, none⟩ (.int .i64 y)) g s k y := by
  have h1 := heap_setCell_same w g 2 _ _ (.int .i64 y) h
  unfold RB
  rw [h1]
  rfl
theorem RB.new (w : World) (s : ByteArray) (k : Nat) (o : Int) : RB (w.alloc (.cells #[.string s, .int .i64 (k : Int), .int .i64 o] 74)) w.heap.size s k o := by
  unfold RB
  show (w.heap.push _)[w.heap.size]? = _
  exact Array.getElem?_push_size
/-- The reader stands elsewhere; nothing else has turned. -/
structure Mv (w w' : World) (g : Nat) (s : ByteArray) (k : Nat) (o : Int) : Prop where
  rb : RB w' g s k o
  gr : w.grownBy w' (some g)
theorem Mv.trans {w w' w'' : World} {g k k' : Nat} {s : ByteArray} {o o' : Int} (h : Mv w w' g s k o) (h2 : Mv w' w'' g s k' o') : Mv w w'' g s k' o' := ⟨h2.rb, h.gr.trans h2.gr⟩
theorem Mv.refl {w : World} {g k : Nat} {s : ByteArray} {o : Int} (h : RB w g s k o) : Mv w w g s k o := ⟨h, World.grownBy.refl _ _⟩
theorem Mv.below {w w' w'' : World} {g k : Nat} {s : ByteArray} {o : Int} (h : Mv w w' g s k o) (hb : Below w'.heap.size w' w'') : Mv w w'' g s k o := ⟨h.rb.below hb, h.gr.trans (grown_below0 hb _)⟩
theorem Mv.setK {w w' : World} {g k : Nat} {s : ByteArray} {o : Int} (h : Mv w w' g s k o) (y : Nat) : Mv w (w'.setCell ⟨g, 1, none⟩ (.int .i64 (y : Int))) g s y o := ⟨h.rb.setK y, h.gr.trans (grown_set _ _ _ _)⟩
theorem Mv.setO {w w' : World} {g k : Nat} {s : ByteArray} {o : Int} (h : Mv w w' g s k o) (y : Int) : Mv w (w'.setCell ⟨g, 2, none⟩ (.int .i64 y)) g s k y := ⟨h.rb.setO y, h.gr.trans (grown_set _ _ _ _)⟩
theorem slice_toR (w : World) (s : ByteArray) (k : Nat) (h : k ≤ s.size) : (Instr.slice 9 (.string s) none (some (.int .i64 (k : Int))) none).run Try.prog w = .ok (.string (s.extract 0 k)) w := by
  simp [go_sem, h]
theorem slice_fromR (w : World) (s : ByteArray) (k : Nat) (h : k ≤ s.size) : (Instr.slice 9 (.string s) (some (.int .i64 (k : Int))) none none).run Try.prog w = .ok (.string (s.extract k s.size)) w := by
  simp [go_sem, h]
set_option maxRecDepth 100000 in
set_option maxHeartbeats 1000000 in
theorem liteHas_any (t p : ByteArray) (w : World) (ht : t.size ≤ 1000) (hp : p.size ≤ 1000) (bb : Bool) (hbb : bb = (decide (p.size ≤ t.size) && ((t.extract 0 p.size).toList == p.toList))) :
    Calls Try.prog 84 #[.string t, .string p] w fun e w' => e = .returned (.bool bb) ∧ w = w' := by
  by_cases hle : p.size ≤ t.size
  · have q := fun w => slice_toR w t p.size hle
    rw [decide_eq_true hle, Bool.true_and] at hbb
    have hleI : (p.size : Int) ≤ (t.size : Int) := by omega
    have HB := hide hbb
    obtain ⟨x, hx⟩ : ∃ x, x = t.extract 0 p.size := ⟨_, rfl⟩
    simp only [← hx] at q hbb
    have hbb2 := hbb.symm
    clear hbb hx
    go_enter Try.func84, Try.ntmps84
    go_wp2
    go_ret
    exact ⟨rfl, rfl⟩
  · rw [decide_eq_false hle, Bool.false_and] at hbb
    subst hbb
    have hleI : ¬ (p.size : Int) ≤ (t.size : Int) := by omega
    go_enter Try.func84, Try.ntmps84
    go_wp2
    go_ret
    exact ⟨rfl, rfl⟩
set_option maxRecDepth 100000 in
set_option maxHeartbeats 1000000 in
theorem hasP_any (t p : ByteArray) (w : World) (ht : t.size ≤ 1000) (hp : p.size ≤ 1000) (bb : Bool) (hbb : bb = (decide (p.size ≤ t.size) && ((t.extract 0 p.size).toList == p.toList))) :
    Calls Try.prog 83 #[.string t, .string p] w fun e w' => e = .returned (.bool bb) ∧ w = w' := by
  have C := hide (fun w => liteHas_any t p w ht hp bb hbb)
  clear hbb ht hp
  go_enter Try.func83, Try.ntmps83
  go_wp2_with fail
  refine (C.out _).mono ?_
  rintro e w1 ⟨rfl, rfl⟩
  go_wp2
  go_ret
  exact ⟨rfl, rfl⟩
theorem cut_one (s : ByteArray) (k : Nat) (h : k < s.size) : (s.extract k s.size).extract 0 1 = ⟨#[s[k]]⟩ := by
  apply ByteArray.ext
  apply Array.ext
  · show ((s.extract k s.size).extract 0 1).size = 1
    rw [ByteArray.size_extract, ByteArray.size_extract]
    omega
  · intro i h1 h2
    have : i = 0 := by simp at h2; omega
    subst this
    simp [ByteArray.getElem_eq_getElem_data]
theorem has_one (s : ByteArray) (k : Nat) (c : UInt8) (hk : k ≤ s.size) (hc : (c.toNat : Int) ≠ 0) : (decide ((⟨#[c]⟩ : ByteArray).size ≤ (s.extract k s.size).size) && (((s.extract k s.size).extract 0 (⟨#[c]⟩ : ByteArray).size).toList == (⟨#[c]⟩ : ByteArray).toList)) = decide (byt s k = (c.toNat : Int)) := by
  have e1 : (⟨#[c]⟩ : ByteArray).size = 1 := rfl
  rw [e1, ByteArray.size_extract]
  by_cases h : k < s.size
  · rw [decide_eq_true (by omega), Bool.true_and, cut_one s k h]
    have hb : byt s k = ((s[k]'h).toNat : Int) := bts_at s k h
    rw [hb]
    by_cases e : s[k] = c
    · rw [e]; simp
    · have : (⟨#[s[k]]⟩ : ByteArray).toList ≠ (⟨#[c]⟩ : ByteArray).toList := fun x => by
        have := toList_inj x
        simp at this
        exact e this
      rw [beq_eq_false_iff_ne.2 this, decide_eq_false]
      intro x
      exact e (UInt8.toNat_inj.1 (by omega))
  · rw [decide_eq_false (by omega), Bool.false_and, byt_end (by omega), decide_eq_false (fun x => hc x.symm)]
theorem has_none (t : ByteArray) : (decide ((⟨#[]⟩ : ByteArray).size ≤ t.size) && ((t.extract 0 (⟨#[]⟩ : ByteArray).size).toList == (⟨#[]⟩ : ByteArray).toList)) = true := by
  have e1 : (⟨#[]⟩ : ByteArray).size = 0 := rfl
  have e2 : t.extract 0 0 = ⟨#[]⟩ := by apply ByteArray.ext; simp
  rw [e1, decide_eq_true (by omega), Bool.true_and, e2]
  simp
theorem keepR {wa wb W : World} {g N : Nat} {u v : Value} (h : (wa.cell? ⟨g, 0, none⟩ = some u ∧ wa.cell? ⟨g, 1, none⟩ = some v) ∧ Below N W wa) (hb : Below wa.heap.size wa wb) (hN : N ≤ W.heap.size) : (wb.cell? ⟨g, 0, none⟩ = some u ∧ wb.cell? ⟨g, 1, none⟩ = some v) ∧ Below N W wb :=
  ⟨⟨(hb.cell (p := ⟨g, 0, none⟩) (blk_lt h.1.1)).trans h.1.1, (hb.cell (p := ⟨g, 1, none⟩) (blk_lt h.1.2)).trans h.1.2⟩, h.2.trans (hb.mono (Nat.le_trans hN h.2.size))⟩
set_option maxRecDepth 100000 in
set_option maxHeartbeats 4000000 in
theorem take_any (p s : ByteArray) (k g : Nat) (o : Int) (w : World) (h : RB w g s k o) (hk : k ≤ s.size) (hs : s.size ≤ 120) (hp : p.size ≤ 1) (bb : Bool) (hbb : bb = (decide (p.size ≤ (s.extract k s.size).size) && (((s.extract k s.size).extract 0 p.size).toList == p.toList))) :
    Calls Try.prog 73 #[.pointer (some ⟨g, 0, none⟩), .string p] w fun e w' => e = .returned (.bool bb) ∧ Mv w w' g s (if bb = true then k + p.size else k) o := by
  have C := hide (fun w => hasP_any (s.extract k s.size) p w (by rw [ByteArray.size_extract]; omega) (by omega) bb hbb)
  have q := fun w => slice_fromR w s k hk
  obtain ⟨t, ht⟩ : ∃ t, t = s.extract k s.size := ⟨_, rfl⟩
  simp only [← ht] at C q
  have H := hide (Mv.refl h)
  have c0 := h.s
  have c1 := h.k
  clear hbb ht h
  go_enter Try.func73, Try.ntmps73
  go_wp2
  go_region_held3 (fun wx => (wx.cell? ⟨g, 0, none⟩ = some (.string s) ∧ wx.cell? ⟨g, 1, none⟩ = some (.int .i64 (k : Int))) ∧ Below w.heap.size w wx) (first | exact ⟨⟨c0, c1⟩, (Below.refl _ _).drew⟩ | exact keepR (by assumption) (by assumption) (Nat.le_refl _)) ((go_at_call 83; refine (C.out _).mono ?_; rintro e w1 ⟨rfl, hb⟩; subst hb))
  rename_i hHeld
  have H2 := hide (H.out.below hHeld.2)
  clear hHeld c0 c1
  cases bb with
  | false =>
    go_wp2
    go_ret
    exact ⟨rfl, H2.out⟩
  | true =>
    have c1 := H2.out.rb.k
    have f1 := H2.out.rb.frozen 1
    have H3 := hide (H2.out.setK (k + p.size))
    have e : ((k + p.size : Nat) : Int) = (k : Int) + (p.size : Int) := by omega
    rw [e] at H3
    clear e
    go_wp2
    go_ret
    exact ⟨rfl, H3.out⟩
theorem take_yes (c : UInt8) (s : ByteArray) (k g : Nat) (o : Int) (w : World) (h : RB w g s k o) (hk : k ≤ s.size) (hs : s.size ≤ 120) (hc : (c.toNat : Int) ≠ 0) (hb : byt s k = (c.toNat : Int)) :
    Calls Try.prog 73 #[.pointer (some ⟨g, 0, none⟩), .string ⟨#[c]⟩] w fun e w' => e = .returned (.bool true) ∧ Mv w w' g s (k + 1) o :=
  take_any ⟨#[c]⟩ s k g o w h hk hs (Nat.le_refl _) true (by rw [has_one s k c hk hc, decide_eq_true hb])
theorem take_no (c : UInt8) (s : ByteArray) (k g : Nat) (o : Int) (w : World) (h : RB w g s k o) (hk : k ≤ s.size) (hs : s.size ≤ 120) (hc : (c.toNat : Int) ≠ 0) (hb : byt s k ≠ (c.toNat : Int)) :
    Calls Try.prog 73 #[.pointer (some ⟨g, 0, none⟩), .string ⟨#[c]⟩] w fun e w' => e = .returned (.bool false) ∧ Mv w w' g s k o :=
  take_any ⟨#[c]⟩ s k g o w h hk hs (Nat.le_refl _) false (by rw [has_one s k c hk hc, decide_eq_false hb])
theorem take_nil (s : ByteArray) (k g : Nat) (o : Int) (w : World) (h : RB w g s k o) (hk : k ≤ s.size) (hs : s.size ≤ 120) :
    Calls Try.prog 73 #[.pointer (some ⟨g, 0, none⟩), .string ⟨#[]⟩] w fun e w' => e = .returned (.bool true) ∧ Mv w w' g s k o :=
  take_any ⟨#[]⟩ s k g o w h hk hs (by decide) true (by rw [has_none])
end Go.Proofs.Ytkdiffpbljohkay.L5
