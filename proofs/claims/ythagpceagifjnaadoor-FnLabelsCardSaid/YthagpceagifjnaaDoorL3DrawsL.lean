/-
  Contracts: the draws of chapter 3's labels: some labels, some texts, whatever the bytes.
-/
import Derived.Test.YthagpceagifjnaaDoorL4DrawL
import Derived.Test.YthagpceagifjnaaDoorL1Spoilt
import Derived.Test.YthagpceagifjnaaDoorL3SText
namespace Go.Proofs.YthagpceagifjnaaDoor.L4
open Go.RowKit L1 L3
set_option linter.unusedVariables false

theorem OwnLb.base {w : World} {B B' m : Nat} {v : Value} (h : OwnLb w B v m) (hB : B' ≤ B) : OwnLb w B' v m := by
  obtain ⟨xs, hl, hp, ho⟩ := h
  exact ⟨xs, hl, hp, own_baseT ho hB⟩
theorem OwnLb.shape {w : World} {B m : Nat} {v : Value} (h : OwnLb w B v m) : ∃ oa k ocap, v = .slice oa k ocap := by
  obtain ⟨xs, _, _, ho⟩ := h
  obtain ⟨oa, ocap, e, _, _⟩ := own_formL ho
  exact ⟨oa, _, ocap, e⟩
set_option maxRecDepth 100000 in
set_option maxHeartbeats 1000000 in
theorem drawGoodL_any (a : Option Addr) (n cap : Nat) (w : World) (h : Slb w w.heap.size a n) (hn : n ≤ 1048576) :
    Calls Tryd.prog 113 #[.slice a n cap] w fun e w' => ∃ v, e = .returned v ∧ OwnLb w' w.heap.size v 7 ∧ Below w.heap.size w w' := by
  have HC := hide (cur_new (cap := cap) h hn)
  clear h
  have hsz0 : (w.alloc (Obj.cells #[.slice a n cap, .int .i64 0, .int .u64 0] 79)).heap.size = w.heap.size + 1 := by simp
  go_enter Tryd.func113, Tryd.ntmps113
  go_wp2_with fail
  refine (labels_any _ 0 _ HC.out (by omega)).mono ?_
  rintro e w1 ⟨v, rfl, hT1, hc1, hg1⟩
  rw [hsz0] at hT1
  obtain ⟨oa, k1, ocap, rfl⟩ := hT1.shape
  have T1 := hide (hT1.base (Nat.le_succ _))
  have G1 := hide (grown_to_below hg1)
  clear hT1 hc1 hg1
  go_wp2
  go_ret
  exact ⟨_, rfl, T1.out, G1.out⟩
set_option maxRecDepth 100000 in
set_option maxHeartbeats 1000000 in
theorem drawTextL_any (a : Option Addr) (n cap : Nat) (w : World) (h : Slb w w.heap.size a n) (hn : n ≤ 1048576) :
    Calls Tryd.prog 59 #[.slice a n cap] w fun e w' => ∃ v, e = .returned v ∧ OwnLb w' w.heap.size v 7 ∧ Below w.heap.size w w' := by
  have C := hide (drawGoodL_any a n cap w h hn)
  clear h
  go_enter Tryd.func59, Tryd.ntmps59
  go_wp2_with fail
  refine C.out.mono ?_
  rintro e w1 ⟨v, rfl, hT1, hb1⟩
  obtain ⟨oa, k1, ocap, rfl⟩ := hT1.shape
  have T1 := hide hT1
  clear hT1
  go_wp2
  go_ret
  exact ⟨_, rfl, T1.out, hb1⟩
set_option maxRecDepth 100000 in
set_option maxHeartbeats 1000000 in
theorem drawMergeL_any (a : Option Addr) (n cap : Nat) (w : World) (h : Slb w w.heap.size a n) (hn : n ≤ 1048576) :
    Calls Tryd.prog 67 #[.slice a n cap] w fun e w' => ∃ v u, e = .returned (.tuple #[v, u]) ∧ OwnLb w' w.heap.size v 7 ∧ OwnLb w' w.heap.size u 7 ∧ Below w.heap.size w w' := by
  have HC := hide (cur_new (cap := cap) h hn)
  clear h
  have hsz0 : (w.alloc (Obj.cells #[.slice a n cap, .int .i64 0, .int .u64 0] 79)).heap.size = w.heap.size + 1 := by simp
  go_enter Tryd.func67, Tryd.ntmps67
  go_wp2_with fail
  refine (labels_any _ 0 _ HC.out (by omega)).mono ?_
  rintro e w1 ⟨v, rfl, hT1, hc1, hg1⟩
  rw [hsz0] at hT1
  obtain ⟨oa, k1, ocap, rfl⟩ := hT1.shape
  have T1 := hide hT1
  have C1 := hide hc1
  have G1 := hide hg1
  have hz1 := hg1.size
  rw [hsz0] at hz1
  clear hT1 hc1 hg1
  go_wp2_with fail
  refine (labels_any _ (0 + 60) _ C1.out (by omega)).mono ?_
  rintro e w2 ⟨u, rfl, hT2, hc2, hg2⟩
  obtain ⟨ob, k2, obcap, rfl⟩ := hT2.shape
  have T2 := hide (hT2.base (show w.heap.size ≤ w1.heap.size by omega))
  have T1' := hide ((T1.out.grown hg2 (by omega)).base (Nat.le_succ _))
  have B2 := hide (grown_to_below (grown_trans G1.out hg2))
  clear hT2 hc2 hg2
  go_wp2
  go_ret2
  exact ⟨_, _, rfl, T1'.out, T2.out, B2.out⟩
theorem own_texts {w : World} {B m : Nat} {v : Value} (h : OwnLb w B v m) : ∃ (l : List Lb) (oa : Option Addr) (ocap : Nat), v = .slice oa l.length ocap ∧ l.length ≤ m ∧ SlL w oa l ∧ ∀ j, j < l.length → (l.getD j eL).1.size ≤ 9223372036854775807 ∧ (l.getD j eL).2.size ≤ 9223372036854775807 := by
  obtain ⟨l, hl, hp, ho⟩ := h
  obtain ⟨oa, ocap, e, hs, _⟩ := own_formL ho
  refine ⟨l, oa, ocap, e, hl, hs, fun j hj => ?_⟩
  have := hp (l.getD j eL) (by simp [List.getD, List.getElem?_eq_getElem hj])
  omega
theorem tx_size (l : List Lb) : ((txRes l).getD ByteArray.empty).size ≤ 200 := by
  unfold txRes
  split
  · rename_i h
    have h1 := ltx_size h l.length (Nat.le_refl _)
    have h2 := h.1
    show (ltext l).size ≤ 200
    unfold ltext
    rw [ByteArray.size_append]
    have : (⟨#[125]⟩ : ByteArray).size = 1 := rfl
    omega
  · show ByteArray.empty.size ≤ 200
    decide
set_option maxRecDepth 100000 in
set_option maxHeartbeats 1000000 in
theorem drawHashL_any (a : Option Addr) (n cap : Nat) (w : World) (h : Slb w w.heap.size a n) (hn : n ≤ 1048576) :
    Calls Tryd.prog 70 #[.slice a n cap] w fun e w' => ∃ u : ByteArray, e = .returned (.string u) ∧ u.size ≤ 300 ∧ Below w.heap.size w w' := by
  have HC := hide (cur_new (cap := cap) h hn)
  clear h
  go_enter Tryd.func70, Tryd.ntmps70
  go_wp2_with fail
  refine (labels_any _ 0 _ HC.out (by omega)).mono ?_
  rintro e w1 ⟨v, rfl, hT1, hc1, hg1⟩
  obtain ⟨l, oa, ocap, rfl, hl, hsl, hst⟩ := own_texts hT1
  have C2 := hide (specText_any oa l l.length ocap w1 rfl hsl (by omega) hst _ rfl)
  have G1 := hide (grown_to_below hg1)
  have hts := tx_size l
  obtain ⟨U, hU⟩ : ∃ U, U = (txRes l).getD ByteArray.empty := ⟨_, rfl⟩
  rw [← hU] at C2 hts
  clear hT1 hc1 hg1 hsl hst hU
  go_wp2_with fail
  refine C2.out.mono ?_
  rintro e w2 ⟨rfl, hb2⟩
  have B2 := hide (G1.out.trans (hb2.mono G1.out.size))
  clear hb2
  go_wp2
  go_ret
  exact ⟨_, rfl, by omega, B2.out⟩
set_option maxRecDepth 100000 in
set_option maxHeartbeats 2000000 in
theorem drawReadL_any (a : Option Addr) (n cap : Nat) (w : World) (h : Slb w w.heap.size a n) (hn : n ≤ 1048576) :
    Calls Tryd.prog 65 #[.slice a n cap] w fun e w' => ∃ u : ByteArray, e = .returned (.string u) ∧ u.size ≤ 300 ∧ Below w.heap.size w w' := by
  have HC := hide (cur_new (cap := cap) h hn)
  clear h
  have hsz0 : (w.alloc (Obj.cells #[.slice a n cap, .int .i64 0, .int .u64 0] 79)).heap.size = w.heap.size + 1 := by simp
  go_enter Tryd.func65, Tryd.ntmps65
  go_wp2_with fail
  refine (labels_any _ 0 _ HC.out (by omega)).mono ?_
  rintro e w1 ⟨v, rfl, hT1, hc1, hg1⟩
  obtain ⟨l, oa, ocap, rfl, hl, hsl, hst⟩ := own_texts hT1
  have C2 := hide (specText_any oa l l.length ocap w1 rfl hsl (by omega) hst _ rfl)
  have hz1 := hg1.size
  rw [hsz0] at hz1
  have HC1 := hide hc1
  have G1 := hide hg1
  have hts := tx_size l
  obtain ⟨U, hU⟩ : ∃ U, U = (txRes l).getD ByteArray.empty := ⟨_, rfl⟩
  rw [← hU] at C2 hts
  clear hT1 hc1 hg1 hsl hst hU
  go_wp2_with fail
  refine C2.out.mono ?_
  rintro e w2 ⟨rfl, hb2⟩
  have G2 := hide (grown_low G1.out (hb2.mono (by omega)))
  have HC2 := hide (HC1.out.below hb2)
  clear hb2
  go_wp2_with fail
  refine (one_any _ (0 + 60) 3 _ HC2.out (by omega) (by omega) (by omega)).mono ?_
  rintro e w3 ⟨t, rfl, hc3, hg3⟩
  have HC3 := hide hc3
  have G3 := hide (grown_trans G2.out hg3)
  clear hc3 hg3
  cases t
  · have B3 := hide (grown_to_below G3.out)
    go_wp2
    go_ret
    exact ⟨_, rfl, by omega, B3.out⟩
  · go_wp2_with fail
    refine (spoilt_any _ (0 + 60 + 2) U _ _ HC3.out (by omega) (by omega) (by decide) (by decide)).mono ?_
    rintro e w4 ⟨u, rfl, hu, hc4, hg4⟩
    have B4 := hide (grown_to_below (grown_trans G3.out hg4))
    clear hc4 hg4
    go_wp2
    go_ret
    exact ⟨_, rfl, by omega, B4.out⟩
end Go.Proofs.YthagpceagifjnaaDoor.L4
