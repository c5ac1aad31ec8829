/-
  Contract: spec.CameFirst.
  Lists of lists of ints in memory, each list in a block of its own. Nothing of the program's text is proved here but closed facts on its types.
  Contracts: impl.readClock, readClocks, clockList.
  Contracts: impl.clockList, readClocks.
  A list more behind lists of lists. Nothing of the program's text is proved here but closed facts on its types.
  Contract: spec.l11Most, the greater numbers of two lists.
  Numbers of events among those of their nodes. Nothing of the program's text is proved here.
  Contracts: spec.l11Clocks, spec.ClocksOf.
-/
import Derived.Test.YtkfnejiiancmhadBundle2
import Derived.Test.YtkfnejiiancmhadBundle3
import Derived.Maps.AppendAt
import Derived.Test.YtkfnejiiancmhadBundle1
namespace Go.Proofs.Ytkfnejiiancmhad.L11
open Go.RowKit L1 Own L4
set_option linter.unusedVariables false

set_option maxRecDepth 100000 in
set_option maxHeartbeats 4000000 in
theorem specCame_any (N : Int) (a : Option Addr) (l : List (Int × Int)) (n cap : Nat) (A B : Int) (w : World) (hn : l.length = n) (hs : Sl2 w a l) (hn2 : n ≤ 1048576) (hN : N ≤ 9223372036854775807) (c r : Bool) (hc : c = true ↔ CFok N l A B) (hr : r = true ↔ CFok N l A B ∧ Anc l A.toNat B.toNat) :
    Calls Try.prog 32 #[.int .i64 N, .slice a n cap, .int .i64 A, .int .i64 B] w fun e w' => e = .returned (.tuple #[.bool r, .bool c]) ∧ Below w.heap.size w w' := by
  have hrc : c = false → r = false := fun e => by
    subst e
    cases r with
    | false => rfl
    | true => exact absurd (hc.2 (hr.1 rfl).1) (by simp)
  by_cases hg : GoodV N l
  case neg =>
    have CG := hide (fun w hs => specGoodEvents_any N a l n cap w hn hs hn2 hN false (by simp [hg]))
    obtain rfl : c = false := by
      cases c with
      | false => rfl
      | true => exact absurd (hc.1 rfl) (fun h => hg h.1)
    obtain rfl := hrc rfl
    have HS := hide hs
    clear hg hc hr hrc hs hn
    go_enter Try.func32, Try.ntmps32
    go_wp2_with fail
    refine (CG.out _ HS.out).mono ?_
    rintro e w1 ⟨rfl, hb1⟩
    have B1 := hide hb1
    clear hb1
    go_wp2
    go_ret2
    exact ⟨rfl, B1.out⟩
  have CG := hide (fun w hs => specGoodEvents_any N a l n cap w hn hs hn2 hN true (by simp [hg]))
  by_cases hA0 : A < 0
  case pos =>
    obtain rfl : c = false := by
      cases c with
      | false => rfl
      | true => exact absurd (hc.1 rfl) (fun h => by have := h.2.1.1; omega)
    obtain rfl := hrc rfl
    have HS := hide hs
    clear hg hc hr hrc hs hn
    go_enter Try.func32, Try.ntmps32
    go_wp2_with fail
    refine (CG.out _ HS.out).mono ?_
    rintro e w1 ⟨rfl, hb1⟩
    have B1 := hide hb1
    clear hb1
    go_wp2
    go_ret2
    exact ⟨rfl, B1.out⟩
  by_cases hA1 : (n : Int) ≤ A
  case pos =>
    obtain rfl : c = false := by
      cases c with
      | false => rfl
      | true => exact absurd (hc.1 rfl) (fun h => by have := h.2.1.2; omega)
    obtain rfl := hrc rfl
    have HS := hide hs
    clear hg hc hr hrc hs hn
    go_enter Try.func32, Try.ntmps32
    go_wp2_with fail
    refine (CG.out _ HS.out).mono ?_
    rintro e w1 ⟨rfl, hb1⟩
    have B1 := hide hb1
    clear hb1
    go_wp2
    go_ret2
    exact ⟨rfl, B1.out⟩
  by_cases hB0 : B < 0
  case pos =>
    obtain rfl : c = false := by
      cases c with
      | false => rfl
      | true => exact absurd (hc.1 rfl) (fun h => by have := h.2.2.1; omega)
    obtain rfl := hrc rfl
    have HS := hide hs
    clear hg hc hr hrc hs hn
    go_enter Try.func32, Try.ntmps32
    go_wp2_with fail
    refine (CG.out _ HS.out).mono ?_
    rintro e w1 ⟨rfl, hb1⟩
    have B1 := hide hb1
    clear hb1
    go_wp2
    go_ret2
    exact ⟨rfl, B1.out⟩
  by_cases hB1 : (n : Int) ≤ B
  case pos =>
    obtain rfl : c = false := by
      cases c with
      | false => rfl
      | true => exact absurd (hc.1 rfl) (fun h => by have := h.2.2.2; omega)
    obtain rfl := hrc rfl
    have HS := hide hs
    clear hg hc hr hrc hs hn
    go_enter Try.func32, Try.ntmps32
    go_wp2_with fail
    refine (CG.out _ HS.out).mono ?_
    rintro e w1 ⟨rfl, hb1⟩
    have B1 := hide hb1
    clear hb1
    go_wp2
    go_ret2
    exact ⟨rfl, B1.out⟩
  obtain ⟨An, hAn⟩ : ∃ An : Nat, A = (An : Int) := ⟨A.toNat, by omega⟩
  obtain ⟨Bn, hBn⟩ : ∃ Bn : Nat, B = (Bn : Int) := ⟨B.toNat, by omega⟩
  subst hAn
  subst hBn
  have hok : CFok N l An Bn := ⟨hg, by omega, by omega⟩
  obtain rfl : c = true := hc.2 hok
  obtain ⟨lb, lo, rfl, _, _⟩ := hs Bn (by omega)
  have CF := hide (fun w hs => l11First_any N lb lo l n cap Bn w hn hs (by omega) hg)
  have hr2 : r = true ↔ Anc l An Bn := hr.trans ⟨fun h => h.2, fun h => ⟨hok, h⟩⟩
  have HR := hide hr2
  have HS := hide hs
  clear hg hc hr hrc hs hn hok hr2
  go_enter Try.func32, Try.ntmps32
  go_wp2_with fail
  refine (CG.out _ HS.out).mono ?_
  rintro e w1 ⟨rfl, hb1⟩
  have B1 := hide hb1
  clear hb1
  go_wp2_with fail
  refine (CF.out _ (HS.out.below B1.out)).mono ?_
  rintro e w3 ⟨v, rfl, xs, ho, hmem, _, hl40, hb3⟩
  have B3 := hide (B1.out.trans (hb3.mono B1.out.size))
  obtain ⟨oa, ocap, rfl, hso⟩ := ownL_form ho
  have CH := hide (fun w hs => l1Has_any oa xs xs.length ocap (An : Int) w rfl hs (by omega) r (HR.out.trans (hmem An).symm))
  have HSO := hide hso
  clear ho hb3 hso hmem CF CG B1
  obtain ⟨xn, hxn⟩ : ∃ xn, xn = xs.length := ⟨_, rfl⟩
  rw [← hxn] at CH hl40 ⊢
  clear hxn
  go_wp2_with fail
  refine (CH.out _ HSO.out).mono ?_
  rintro e w4 ⟨rfl, hb4⟩
  have B4 := hide (B3.out.trans (hb4.mono B3.out.size))
  clear hb4
  go_wp2
  go_ret2
  exact ⟨rfl, B4.out⟩
end Go.Proofs.Ytkfnejiiancmhad.L11

namespace Go.Proofs.Ytkfnejiiancmhad.Own
open Go.RowKit L1
set_option linter.unusedVariables false

/-- The cells of a list of lists. -/
def lS (n N : Nat) (bs cs : Nat → Nat) : List Value := (List.range n).map fun i => Value.slice (some ⟨bs i, 0, none⟩) N (cs i)
theorem lS_len (n N : Nat) (bs cs : Nat → Nat) : (lS n N bs cs).length = n := by simp [lS]
theorem lS_get (n N : Nat) (bs cs : Nat → Nat) (i : Nat) (h : i < n) : (lS n N bs cs)[i]? = some (.slice (some ⟨bs i, 0, none⟩) N (cs i)) := by simp [lS, h]
theorem lS_congr (n N : Nat) (bs cs bs' cs' : Nat → Nat) (h : ∀ i, i < n → bs i = bs' i ∧ cs i = cs' i) : lS n N bs cs = lS n N bs' cs' := by
  unfold lS
  apply List.map_congr_left
  intro i hi
  have := h i (by simpa using hi)
  rw [this.1, this.2]
theorem lS_succ (n N : Nat) (bs cs : Nat → Nat) : lS (n + 1) N bs cs = lS n N bs cs ++ [.slice (some ⟨bs n, 0, none⟩) N (cs n)] := by simp [lS, List.range_succ]
/-- Lists of N ints, n of them, in blocks from B on and below T. -/
structure SV (w : World) (B T : Nat) (v : Value) (n N : Nat) (bs cs : Nat → Nat) (G : Nat → Nat → Int) : Prop where
  out : w.ownsRow B 27 1 v n (lS n N bs cs)
  top : ∀ q, v.ownBlock = some q → q < T
  row : ∀ i, i < n → w.ownsRow B 3 1 (.slice (some ⟨bs i, 0, none⟩) N (cs i)) N (lA N (G i))
  rtop : ∀ i, i < n → bs i < T
  inj : ∀ i j, i < n → j < n → bs i = bs j → i = j
def SW (w : World) (B T : Nat) (v : Value) (n N : Nat) (G : Nat → Nat → Int) : Prop := ∃ bs cs, SV w B T v n N bs cs G
theorem own_blkS {w w' : World} {base n c : Nat} {t : TypeId} {v : Value} {xs : List Value} (h : w.ownsRow base t c v n xs) (hb : ∀ q, v.ownBlock = some q → w'.heap[q]? = w.heap[q]?) : w'.ownsRow base t c v n xs := by
  refine ⟨h.1, ?_⟩
  rcases h.2 with h0 | ⟨q, cap, cur, hv, hbg, hh, rest⟩
  · exact .inl h0
  · exact .inr ⟨q, cap, cur, hv, hbg, (hb q (by rw [hv]; rfl)).trans hh, rest⟩
section
variable {w w' : World} {B T : Nat} {v : Value} {n N : Nat} {bs cs : Nat → Nat} {G : Nat → Nat → Int}
theorem SV.keep (h : SV w B T v n N bs cs G) (hb : ∀ q, B ≤ q → q < T → w'.heap[q]? = w.heap[q]?) : SV w' B T v n N bs cs G :=
  ⟨own_blkS h.out (fun q hq => hb q (h.out.lt q hq).1 (h.top q hq)), h.top, fun i hi => own_blkS (h.row i hi) (fun q hq => by
    have h1 := ((h.row i hi).lt q hq).1
    have h2 : bs i = q := by simpa [Value.ownBlock] using hq
    exact hb q h1 (by rw [← h2]; exact h.rtop i hi)), h.rtop, h.inj⟩
theorem SV.lt (h : SV w B T v n N bs cs G) : (∀ q, v.ownBlock = some q → q < w.heap.size) ∧ ∀ i, i < n → bs i < w.heap.size := ⟨fun q hq => (h.out.lt q hq).2, fun i hi => ((h.row i hi).lt (bs i) rfl).2⟩
theorem SV.below (h : SV w B T v n N bs cs G) (hb : Below w.heap.size w w') : SV w' B T v n N bs cs G :=
  ⟨own_blkS h.out (fun q hq => hb.block q (h.lt.1 q hq)), h.top, fun i hi => own_blkS (h.row i hi) (fun q hq => hb.block q (((h.row i hi).lt q hq).2)), h.rtop, h.inj⟩
theorem SV.form (h : SV w B T v n N bs cs G) : ∃ a cap, v = .slice a n cap := by
  rcases h.out.2 with ⟨hv, h0⟩ | ⟨q, cap, cur, hv, _⟩
  · subst h0; exact ⟨none, 0, hv⟩
  · exact ⟨_, cap, hv⟩
theorem SV.addr {a : Option Addr} {cap : Nat} (h : SV w B T (.slice a n cap) n N bs cs G) (hn : 0 < n) : ∃ g, a = some ⟨g, 0, none⟩ ∧ ∀ i, i < n → w.cell? ⟨g, i, none⟩ = some (.slice (some ⟨bs i, 0, none⟩) N (cs i)) := by
  rcases h.out.2 with ⟨hv, h0⟩ | ⟨q, cap', cur, hv, _⟩
  · omega
  · simp at hv
    refine ⟨q, hv.1, fun i hi => ?_⟩
    have h1 := h.out
    rw [hv.1] at h1
    have h2 := h1.cells (g := q) rfl i _ (lS_get n N bs cs i hi)
    rw [addr_add] at h2
    exact h2
theorem SV.sl (h : SV w B T v n N bs cs G) (i : Nat) (hi : i < n) : Sl w (some ⟨bs i, 0, none⟩) ((List.range N).map (G i)) := fun j hj => by
  have hj' : j < N := by simpa using hj
  have h1 := (h.row i hi).cellAt j (by omega)
  rw [lA_get N (G i) j hj'] at h1
  exact ⟨bs i, 0, rfl, by rw [Nat.zero_add, h1]; simp [List.getD, hj']⟩
/-- The row of lists and a list are two blocks. -/
theorem SV.two (h : SV w B T v n N bs cs G) (i : Nat) (hi : i < n) : v.ownBlock ≠ some (bs i) := fun e => by
  rcases h.out.2 with ⟨hv, _⟩ | ⟨q, cap, cur, hv, _, hh, _⟩
  · rw [hv] at e; cases e
  · rw [hv] at e
    have e2 : q = bs i := by simpa [Value.ownBlock] using e
    rcases (h.row i hi).2 with ⟨hv2, _⟩ | ⟨q2, cap2, cur2, hv2, _, hh2, _⟩
    · cases hv2
    · simp at hv2
      rw [e2] at hh
      rw [← hv2.1] at hh2
      rw [hh] at hh2
      simp at hh2
end
theorem SW.below {w w' : World} {B T : Nat} {v : Value} {n N : Nat} {G : Nat → Nat → Int} (h : SW w B T v n N G) (hb : Below w.heap.size w w') : SW w' B T v n N G := by
  obtain ⟨bs, cs, h⟩ := h
  exact ⟨bs, cs, h.below hb⟩
theorem SW.keep {w w' : World} {B T : Nat} {v : Value} {n N : Nat} {G : Nat → Nat → Int} (h : SW w B T v n N G) (hb : ∀ q, B ≤ q → q < T → w'.heap[q]? = w.heap[q]?) : SW w' B T v n N G := by
  obtain ⟨bs, cs, h⟩ := h
  exact ⟨bs, cs, h.keep hb⟩
theorem SW.zero {w : World} {B T : Nat} {v : Value} {N N' : Nat} {G : Nat → Nat → Int} (h : SW w B T v 0 N G) : SW w B T v 0 N' G := by
  obtain ⟨bs, cs, h⟩ := h
  exact ⟨bs, cs, h.out, h.top, fun i hi => absurd hi (Nat.not_lt_zero _), h.rtop, h.inj⟩
theorem SW.nil (w : World) (B T N : Nat) (G : Nat → Nat → Int) : SW w B T (.slice none 0 0) 0 N G :=
  ⟨fun _ => 0, fun _ => 0, World.ownsRow_nil _ _ _ _, (fun q hq => by cases hq), (fun i hi => by omega), (fun i hi => by omega), (fun i j hi => by omega)⟩
end Go.Proofs.Ytkfnejiiancmhad.Own

namespace Go.Proofs.Ytkfnejiiancmhad.L11
open Go.RowKit L1 Own
set_option linter.unusedVariables false

/-- A list of numbers that may be a clock. -/
def OkC (l : List Int) : Prop := 1 ≤ l.length ∧ l.length ≤ 5 ∧ ∀ j, j < l.length → 0 ≤ l.getD j 0 ∧ l.getD j 0 ≤ 40
/-- The clock of a list. -/
def fnL (l : List Int) : Nat → Int := fun i => l.getD i 0
def rdK (l : List Int) (k : Nat) : Nat → Int := fun i => if i < k then l.getD i 0 else 0
theorem rdK_succ (l : List Int) (k i : Nat) : updI (rdK l k) k (l.getD k 0) i = rdK l (k + 1) i := by
  unfold updI rdK
  by_cases e : i = k
  · subst e; simp
  · rw [if_neg e]
    by_cases h : i < k
    · rw [if_pos h, if_pos (by omega)]
    · rw [if_neg h, if_neg (by omega)]
theorem rdK_all (l : List Int) (i : Nat) : rdK l l.length i = fnL l i := by
  unfold rdK fnL
  by_cases h : i < l.length
  · rw [if_pos h]
  · rw [if_neg h]; simp [List.getD, List.getElem?_eq_none (show l.length ≤ i by omega)]
/-- Two clocks in memory, and nothing older turned. -/
structure K2 (w wr : World) (A B : Nat → Int) : Prop where
  a : Clk wr w.heap.size w.heap.size A
  b : Clk wr w.heap.size (w.heap.size + 1) B
  bel : Below w.heap.size w wr
set_option maxRecDepth 100000 in
set_option maxHeartbeats 4000000 in
theorem readClock_no (a : Option Addr) (l : List Int) (n cap : Nat) (w : World) (hn : l.length = n) (hs : Sl w a l) (hn2 : n ≤ 1048576) (hb : ¬ OkC l) :
    Calls Try.prog 89 #[.slice a n cap] w fun e w' => e = .returned (.tuple #[cv (fun _ => 0), .bool false]) ∧ Below w.heap.size w w' := by
  have HB := hide hb
  clear hb
  by_cases h1 : (n : Int) < 1
  · clear hs hn HB
    go_enter Try.func89, Try.ntmps89
    go_upto_region 2 with fail
    obtain ⟨W, hW⟩ : ∃ W, (w.alloc (.cells #[.int .i64 0, .int .i64 0, .int .i64 0, .int .i64 0, .int .i64 0] 112)).alloc (.cells #[.int .i64 0, .int .i64 0, .int .i64 0, .int .i64 0, .int .i64 0] 112) = W := ⟨_, rfl⟩
    have H0 : Hid (K2 w W (fun _ => 0) (fun _ => 0)) := by
      rw [← hW]
      exact hide ⟨(clk_zero w _ _ rfl (Nat.le_refl _)).alloc _, clk_zero _ _ _ (by simp) (by omega), ((Below.refl _ _).alloc (Nat.le_refl _) _).alloc (by simp) _⟩
    rw [hW]
    clear hW
    have r0 := H0.out.a.cell 0 (by omega)
    have f0 := H0.out.a.frozenAt 0
    have r1 := H0.out.a.cell 1 (by omega)
    have f1 := H0.out.a.frozenAt 1
    have r2 := H0.out.a.cell 2 (by omega)
    have f2 := H0.out.a.frozenAt 2
    have r3 := H0.out.a.cell 3 (by omega)
    have f3 := H0.out.a.frozenAt 3
    have r4 := H0.out.a.cell 4 (by omega)
    have f4 := H0.out.a.frozenAt 4
    go_wp2
    refine bodyPost_ret (v := .tuple #[cv (fun _ => 0), .bool false]) (by simp [results, Try.f89, go_sem, *]) rfl ⟨rfl, ?_⟩
    exact (((((H0.out.bel.setCell (p := ⟨w.heap.size, 0, none⟩) (by simp only; omega) _).setCell (p := ⟨w.heap.size, 1, none⟩) (by simp only; omega) _).setCell (p := ⟨w.heap.size, 2, none⟩) (by simp only; omega) _).setCell (p := ⟨w.heap.size, 3, none⟩) (by simp only; omega) _).setCell (p := ⟨w.heap.size, 4, none⟩) (by simp only; omega) _)
  by_cases h5 : 5 < (n : Int)
  · clear hs hn HB
    go_enter Try.func89, Try.ntmps89
    go_upto_region 2 with fail
    obtain ⟨W, hW⟩ : ∃ W, (w.alloc (.cells #[.int .i64 0, .int .i64 0, .int .i64 0, .int .i64 0, .int .i64 0] 112)).alloc (.cells #[.int .i64 0, .int .i64 0, .int .i64 0, .int .i64 0, .int .i64 0] 112) = W := ⟨_, rfl⟩
    have H0 : Hid (K2 w W (fun _ => 0) (fun _ => 0)) := by
      rw [← hW]
      exact hide ⟨(clk_zero w _ _ rfl (Nat.le_refl _)).alloc _, clk_zero _ _ _ (by simp) (by omega), ((Below.refl _ _).alloc (Nat.le_refl _) _).alloc (by simp) _⟩
    rw [hW]
    clear hW
    have r0 := H0.out.a.cell 0 (by omega)
    have f0 := H0.out.a.frozenAt 0
    have r1 := H0.out.a.cell 1 (by omega)
    have f1 := H0.out.a.frozenAt 1
    have r2 := H0.out.a.cell 2 (by omega)
    have f2 := H0.out.a.frozenAt 2
    have r3 := H0.out.a.cell 3 (by omega)
    have f3 := H0.out.a.frozenAt 3
    have r4 := H0.out.a.cell 4 (by omega)
    have f4 := H0.out.a.frozenAt 4
    go_wp2
    refine bodyPost_ret (v := .tuple #[cv (fun _ => 0), .bool false]) (by simp [results, Try.f89, go_sem, *]) rfl ⟨rfl, ?_⟩
    exact (((((H0.out.bel.setCell (p := ⟨w.heap.size, 0, none⟩) (by simp only; omega) _).setCell (p := ⟨w.heap.size, 1, none⟩) (by simp only; omega) _).setCell (p := ⟨w.heap.size, 2, none⟩) (by simp only; omega) _).setCell (p := ⟨w.heap.size, 3, none⟩) (by simp only; omega) _).setCell (p := ⟨w.heap.size, 4, none⟩) (by simp only; omega) _)
  have HS := hide hs
  have HN := hide hn
  clear hs hn
  go_enter Try.func89, Try.ntmps89
  go_upto_region 2 with fail
  obtain ⟨W, hW⟩ : ∃ W, (w.alloc (.cells #[.int .i64 0, .int .i64 0, .int .i64 0, .int .i64 0, .int .i64 0] 112)).alloc (.cells #[.int .i64 0, .int .i64 0, .int .i64 0, .int .i64 0, .int .i64 0] 112) = W := ⟨_, rfl⟩
  have H0 : Hid (K2 w W (fun _ => 0) (fun _ => 0)) := by
    rw [← hW]
    exact hide ⟨(clk_zero w _ _ rfl (Nat.le_refl _)).alloc _, clk_zero _ _ _ (by simp) (by omega), ((Below.refl _ _).alloc (Nat.le_refl _) _).alloc (by simp) _⟩
  rw [hW]
  clear hW
  go_wp2
  go_loopw [18] (fun i wr => ∃ k : Nat, k ≤ n ∧ i = .int .i64 k ∧ Hid (∀ j, j < k → 0 ≤ l.getD j 0 ∧ l.getD j 0 ≤ 40) ∧ Hid (K2 w wr (fun _ => 0) (rdK l k))) (fun i _ => n - (intOf i).toNat)
  case atStart => exact ⟨0, Nat.zero_le _, rfl, fun j hj => absurd hj (Nat.not_lt_zero _), H0⟩
  case round =>
    obtain ⟨k, hk, rfl, HJ, HS2⟩ := hrel
    by_cases hlt : k < n
    · obtain ⟨b, off, rfl, hc0⟩ := HS.out k (by rw [HN.out]; exact hlt)
      have hc := (HS2.out.bel.cell (p := ⟨b, off + k, none⟩) (blk_lt hc0)).trans hc0
      have hltI : (k : Int) < (n : Int) := by omega
      have hk5 : (k : Int) < 5 := by omega
      have hk0 : (0 : Int) ≤ (k : Int) := by omega
      obtain ⟨x, hx⟩ : ∃ x, x = l.getD k 0 := ⟨_, rfl⟩
      rw [← hx] at hc
      have HX := hide hx
      clear hc0 hx
      by_cases hx0 : x < 0
      · clear HX
        have r0 := HS2.out.a.cell 0 (by omega)
        have f0 := HS2.out.a.frozenAt 0
        have r1 := HS2.out.a.cell 1 (by omega)
        have f1 := HS2.out.a.frozenAt 1
        have r2 := HS2.out.a.cell 2 (by omega)
        have f2 := HS2.out.a.frozenAt 2
        have r3 := HS2.out.a.cell 3 (by omega)
        have f3 := HS2.out.a.frozenAt 3
        have r4 := HS2.out.a.cell 4 (by omega)
        have f4 := HS2.out.a.frozenAt 4
        go_wp2
        refine bodyPost_ret (v := .tuple #[cv (fun _ => 0), .bool false]) (by simp [results, Try.f89, go_sem, *]) rfl ⟨rfl, ?_⟩
        exact (((((HS2.out.bel.setCell (p := ⟨w.heap.size, 0, none⟩) (by simp only; omega) _).setCell (p := ⟨w.heap.size, 1, none⟩) (by simp only; omega) _).setCell (p := ⟨w.heap.size, 2, none⟩) (by simp only; omega) _).setCell (p := ⟨w.heap.size, 3, none⟩) (by simp only; omega) _).setCell (p := ⟨w.heap.size, 4, none⟩) (by simp only; omega) _)
      · by_cases hx1 : 40 < x
        · clear HX
          have r0 := HS2.out.a.cell 0 (by omega)
          have f0 := HS2.out.a.frozenAt 0
          have r1 := HS2.out.a.cell 1 (by omega)
          have f1 := HS2.out.a.frozenAt 1
          have r2 := HS2.out.a.cell 2 (by omega)
          have f2 := HS2.out.a.frozenAt 2
          have r3 := HS2.out.a.cell 3 (by omega)
          have f3 := HS2.out.a.frozenAt 3
          have r4 := HS2.out.a.cell 4 (by omega)
          have f4 := HS2.out.a.frozenAt 4
          go_wp2
          refine bodyPost_ret (v := .tuple #[cv (fun _ => 0), .bool false]) (by simp [results, Try.f89, go_sem, *]) rfl ⟨rfl, ?_⟩
          exact (((((HS2.out.bel.setCell (p := ⟨w.heap.size, 0, none⟩) (by simp only; omega) _).setCell (p := ⟨w.heap.size, 1, none⟩) (by simp only; omega) _).setCell (p := ⟨w.heap.size, 2, none⟩) (by simp only; omega) _).setCell (p := ⟨w.heap.size, 3, none⟩) (by simp only; omega) _).setCell (p := ⟨w.heap.size, 4, none⟩) (by simp only; omega) _)
        · have HK : Hid (∀ j, j < k + 1 → 0 ≤ l.getD j 0 ∧ l.getD j 0 ≤ 40) := fun j hj => by
            by_cases e : j = k
            · subst e; rw [← HX.out]; omega
            · exact HJ.out j (by omega)
          have cb := HS2.out.b.cell k (by omega)
          have fb := HS2.out.b.frozenAt k
          have HN2 : Hid (K2 w (wr.setCell ⟨w.heap.size + 1, k, none⟩ (.int .i64 x)) (fun _ => 0) (rdK l (k + 1))) := hide
            ⟨HS2.out.a.keep k _ (by omega), (HS2.out.b.set k x).congr (fun i _ => by rw [HX.out]; exact rdK_succ l k i), HS2.out.bel.setCell (p := ⟨w.heap.size + 1, k, none⟩) (by simp only; omega) _⟩
          go_wp2
          go_roundw
          case rel => exact ⟨k + 1, by omega, by go_num, HK.out, HN2⟩
          case measure => simp [intOf]; omega
    · exact absurd ⟨by rw [HN.out]; omega, by rw [HN.out]; omega, fun j hj => HJ.out j (by rw [HN.out] at hj; omega)⟩ HB.out
set_option maxRecDepth 100000 in
set_option maxHeartbeats 4000000 in
theorem readClock_yes (a : Option Addr) (l : List Int) (n cap : Nat) (w : World) (hn : l.length = n) (hs : Sl w a l) (hb : OkC l) :
    Calls Try.prog 89 #[.slice a n cap] w fun e w' => e = .returned (.tuple #[cv (fnL l), .bool true]) ∧ Below w.heap.size w w' := by
  have h1 : ¬ (n : Int) < 1 := by have := hb.1; omega
  have h5 : ¬ 5 < (n : Int) := by have := hb.2.1; omega
  have HB := hide hb
  have HS := hide hs
  have HN := hide hn
  clear hs hn hb
  go_enter Try.func89, Try.ntmps89
  go_upto_region 2 with fail
  obtain ⟨W, hW⟩ : ∃ W, (w.alloc (.cells #[.int .i64 0, .int .i64 0, .int .i64 0, .int .i64 0, .int .i64 0] 112)).alloc (.cells #[.int .i64 0, .int .i64 0, .int .i64 0, .int .i64 0, .int .i64 0] 112) = W := ⟨_, rfl⟩
  have H0 : Hid (K2 w W (fun _ => 0) (fun _ => 0)) := by
    rw [← hW]
    exact hide ⟨(clk_zero w _ _ rfl (Nat.le_refl _)).alloc _, clk_zero _ _ _ (by simp) (by omega), ((Below.refl _ _).alloc (Nat.le_refl _) _).alloc (by simp) _⟩
  rw [hW]
  clear hW
  go_wp2
  go_loopw [18] (fun i wr => ∃ k : Nat, k ≤ n ∧ i = .int .i64 k ∧ Hid (K2 w wr (fun _ => 0) (rdK l k))) (fun i _ => n - (intOf i).toNat)
  case atStart => exact ⟨0, Nat.zero_le _, rfl, H0⟩
  case round =>
    obtain ⟨k, hk, rfl, HS2⟩ := hrel
    by_cases hlt : k < n
    · obtain ⟨b, off, rfl, hc0⟩ := HS.out k (by rw [HN.out]; exact hlt)
      have hc := (HS2.out.bel.cell (p := ⟨b, off + k, none⟩) (blk_lt hc0)).trans hc0
      have hltI : (k : Int) < (n : Int) := by omega
      have hk5 : (k : Int) < 5 := by omega
      have hk0 : (0 : Int) ≤ (k : Int) := by omega
      have hxb := HB.out.2.2 k (by rw [HN.out]; exact hlt)
      obtain ⟨x, hx⟩ : ∃ x, x = l.getD k 0 := ⟨_, rfl⟩
      rw [← hx] at hc hxb
      have HX := hide hx
      have hx0 : ¬ x < 0 := by omega
      have hx1 : ¬ 40 < x := by omega
      clear hc0 hx hxb
      have cb := HS2.out.b.cell k (by omega)
      have fb := HS2.out.b.frozenAt k
      have HN2 : Hid (K2 w (wr.setCell ⟨w.heap.size + 1, k, none⟩ (.int .i64 x)) (fun _ => 0) (rdK l (k + 1))) := hide
        ⟨HS2.out.a.keep k _ (by omega), (HS2.out.b.set k x).congr (fun i _ => by rw [HX.out]; exact rdK_succ l k i), HS2.out.bel.setCell (p := ⟨w.heap.size + 1, k, none⟩) (by simp only; omega) _⟩
      go_wp2
      go_roundw
      case rel => exact ⟨k + 1, by omega, by go_num, HN2⟩
      case measure => simp [intOf]; omega
    · obtain rfl : k = n := by omega
      have hltI : ¬ (k : Int) < (k : Int) := by omega
      have H5 : Hid (K2 w wr (fun _ => 0) (fnL l)) := hide ⟨HS2.out.a, HS2.out.b.congr (fun i _ => by rw [← rdK_all, HN.out]), HS2.out.bel⟩
      clear HS2
      have e0 := H5.out.b.cell 0 (by omega)
      have r0 := H5.out.a.cell 0 (by omega)
      have f0 := H5.out.a.frozenAt 0
      have e1 := H5.out.b.cell 1 (by omega)
      have r1 := H5.out.a.cell 1 (by omega)
      have f1 := H5.out.a.frozenAt 1
      have e2 := H5.out.b.cell 2 (by omega)
      have r2 := H5.out.a.cell 2 (by omega)
      have f2 := H5.out.a.frozenAt 2
      have e3 := H5.out.b.cell 3 (by omega)
      have r3 := H5.out.a.cell 3 (by omega)
      have f3 := H5.out.a.frozenAt 3
      have e4 := H5.out.b.cell 4 (by omega)
      have r4 := H5.out.a.cell 4 (by omega)
      have f4 := H5.out.a.frozenAt 4
      go_wp2
      refine bodyPost_ret (v := .tuple #[cv (fnL l), .bool true]) (by simp [results, Try.f89, go_sem, *]) rfl ⟨rfl, ?_⟩
      exact (((((H5.out.bel.setCell (p := ⟨w.heap.size, 0, none⟩) (by simp only; omega) _).setCell (p := ⟨w.heap.size, 1, none⟩) (by simp only; omega) _).setCell (p := ⟨w.heap.size, 2, none⟩) (by simp only; omega) _).setCell (p := ⟨w.heap.size, 3, none⟩) (by simp only; omega) _).setCell (p := ⟨w.heap.size, 4, none⟩) (by simp only; omega) _)
end Go.Proofs.Ytkfnejiiancmhad.L11

namespace Go.Proofs.Ytkfnejiiancmhad.L11
open Go.RowKit L1 Own
set_option linter.unusedVariables false

/-- The first numbers of a clock. -/
def clL (E : Nat → Int) (N : Nat) : List Int := (List.range N).map E
theorem clL_len (E : Nat → Int) (N : Nat) : (clL E N).length = N := by simp [clL]
theorem clL_lA (E : Nat → Int) (N : Nat) : (clL E N).map (Value.int .i64) = lA N E := by simp [clL, lA]
theorem addr_add11 (g j : Nat) : (⟨g, 0, none⟩ : Addr).add j = ⟨g, j, none⟩ := by rw [addr_add]
set_option maxRecDepth 100000 in
set_option maxHeartbeats 4000000 in
theorem clockList_any (E : Nat → Int) (N : Nat) (h1 : 1 ≤ N) (h5 : N ≤ 5) (w : World) :
    Calls Try.prog 80 #[cv E, .int .i64 N] w fun e w' => ∃ v, e = .returned v ∧ w'.ownsRow w.heap.size 3 1 v N ((clL E N).map (Value.int .i64)) ∧ Below w.heap.size w w' := by
  obtain ⟨i1, hi1, hy0, hy1, hy2⟩ := info_parts info_int
  have h1I : (1 : Int) ≤ (N : Int) := by omega
  have h5I : (N : Int) ≤ 5 := by omega
  go_enter Try.func80, Try.ntmps80
  go_upto_region 1 with fail
  obtain ⟨W, hW⟩ : ∃ W, w.alloc (.cells #[.int .i64 (E 0), .int .i64 (E 1), .int .i64 (E 2), .int .i64 (E 3), .int .i64 (E 4)] 112) = W := ⟨_, rfl⟩
  have HC : Hid (Clk W w.heap.size w.heap.size E) := by rw [← hW]; exact hide (clk_new w _ _ rfl (Nat.le_refl _) E)
  have HB : Hid (Below w.heap.size w W) := by rw [← hW]; exact hide ((Below.refl _ _).alloc (Nat.le_refl _) _)
  rw [hW]
  clear hW
  have hsz := HB.out.size
  have hnews : ∀ j u, ((clL E N).map (Value.int .i64))[j]? = some u → W.cell? ((⟨w.heap.size, 0, none⟩ : Addr).add j) = some u := fun j u h => by
    rw [clL_lA] at h
    have hj : j < N := by
      by_cases h2 : j < N
      · exact h2
      · rw [List.getElem?_eq_none (by simp [lA]; omega)] at h; cases h
    rw [lA_get N E j hj] at h
    cases h
    rw [addr_add11]
    exact HC.out.cell j (by omega)
  have HNW := hide hnews
  clear hnews
  go_wp2_with (first
    | (at_builtin; refine wpList_append_own_at _ rfl _ _ 27 rfl w.heap.size 3 i1 (.int .i64 0) 1 8 Try.underlying27 hi1 hy0 hy1 hy2 rfl (by decide) _ _ _ rfl (World.ownsRow_nil _ _ _ _) ⟨w.heap.size, 0, none⟩ N 5 ((clL E N).map (Value.int .i64)) rfl (by simp [clL_len]) HNW.out (by intro u hu; simp at hu; obtain ⟨q, _, rfl⟩ := hu; rfl) (by unfold maxLen; omega) (by omega) hsz ?_)
    | go_in)
  intro v6 w6 hown6 hgrow6 _ _
  have hb6 : Below w.heap.size w w6 := HB.out.grown hgrow6 hsz (fun g hg => by cases hg)
  have HO := hide hown6
  clear hown6 hgrow6
  go_wp2
  go_ret
  exact ⟨v6, rfl, by simpa using HO.out, hb6⟩
theorem readClock_any (a : Option Addr) (l : List Int) (n cap : Nat) (w : World) (hn : l.length = n) (hs : Sl w a l) (hn2 : n ≤ 1048576) (b : Bool) (hb : b = true ↔ OkC l) (X : Nat → Int) (hX : X = if b then fnL l else fun _ => 0) :
    Calls Try.prog 89 #[.slice a n cap] w fun e w' => e = .returned (.tuple #[cv X, .bool b]) ∧ Below w.heap.size w w' := by
  cases b with
  | true => subst hX; exact readClock_yes a l n cap w hn hs (hb.1 rfl)
  | false => subst hX; exact readClock_no a l n cap w hn hs hn2 (fun h => by have := hb.2 h; cases this)
set_option maxRecDepth 100000 in
set_option maxHeartbeats 4000000 in
theorem readClocks_any (a b : Option Addr) (l m : List Int) (n k ca cb : Nat) (w : World) (hn : l.length = n) (hk : m.length = k) (ha : Sl w a l) (hb : Sl w b m) (hn2 : n ≤ 1048576) (hk2 : k ≤ 1048576)
    (ba : Bool) (hba : ba = true ↔ OkC l) (X : Nat → Int) (hX : X = if ba then fnL l else fun _ => 0) (bb : Bool) (hbb : bb = true ↔ OkC m) (Y : Nat → Int) (hY : Y = if bb then fnL m else fun _ => 0) (c : Bool) (hc : c = true ↔ (OkC l ∧ OkC m) ∧ n = k) :
    Calls Try.prog 84 #[.slice a n ca, .slice b k cb] w fun e w' => e = .returned (.tuple #[cv X, cv Y, .bool c]) ∧ Below w.heap.size w w' := by
  have CA := hide (fun w hs => readClock_any a l n ca w hn hs hn2 ba hba X hX)
  have CB := hide (fun w hs => readClock_any b m k cb w hk hs hk2 bb hbb Y hY)
  have HA := hide ha
  have HBB := hide hb
  have hc2 : c = true ↔ (ba = true ∧ bb = true) ∧ n = k := by rw [hba, hbb]; exact hc
  have HC := hide hc2
  clear hn hk ha hb hba hbb hX hY hc hc2
  cases ba with
  | false =>
    obtain rfl : c = false := by cases c with
      | false => rfl
      | true => exact absurd (HC.out.1 rfl).1.1 (by simp)
    clear HC
    go_enter Try.func84, Try.ntmps84
    go_upto_region 1 with fail
    obtain ⟨W, hW⟩ : ∃ W, (w.alloc (.cells #[.int .i64 0, .int .i64 0, .int .i64 0, .int .i64 0, .int .i64 0] 112)).alloc (.cells #[.int .i64 0, .int .i64 0, .int .i64 0, .int .i64 0, .int .i64 0] 112) = W := ⟨_, rfl⟩
    have H0 : Hid (K2 w W (fun _ => 0) (fun _ => 0)) := by
      rw [← hW]
      exact hide ⟨(clk_zero w _ _ rfl (Nat.le_refl _)).alloc _, clk_zero _ _ _ (by simp) (by omega), ((Below.refl _ _).alloc (Nat.le_refl _) _).alloc (by simp) _⟩
    rw [hW]
    clear hW
    go_wp2_with fail
    refine (CA.out _ (HA.out.below H0.out.bel)).mono ?_
    rintro e w1 ⟨rfl, hb1⟩
    have H1 : Hid (K2 w w1 (fun _ => 0) (fun _ => 0)) := hide ⟨H0.out.a.below hb1, H0.out.b.below hb1, H0.out.bel.trans (hb1.mono H0.out.bel.size)⟩
    clear hb1 H0
    go_upto_region 2 with fail
    obtain ⟨W1, hW1⟩ : ∃ W1, w1.alloc (.cells #[.int .i64 (X 0), .int .i64 (X 1), .int .i64 (X 2), .int .i64 (X 3), .int .i64 (X 4)] 112) = W1 := ⟨_, rfl⟩
    have hbw1 : Below w1.heap.size w1 W1 := by rw [← hW1]; exact (Below.refl _ _).alloc (Nat.le_refl _) _
    have HX1 : Hid (Clk W1 w.heap.size w1.heap.size X) := by rw [← hW1]; exact hide (clk_new w1 _ _ rfl H1.out.bel.size X)
    have H2 : Hid (K2 w W1 (fun _ => 0) (fun _ => 0)) := hide ⟨H1.out.a.below hbw1, H1.out.b.below hbw1, H1.out.bel.trans (hbw1.mono H1.out.bel.size)⟩
    rw [hW1]
    obtain ⟨gx, hgx⟩ : ∃ gx, gx = w1.heap.size := ⟨_, rfl⟩
    rw [← hgx] at HX1 ⊢
    have hgx1 : w.heap.size + 1 < gx := by rw [hgx]; exact H1.out.b.lt
    clear hW1 hbw1 H1 hgx
    go_wp2_with fail
    refine (CB.out _ (HBB.out.below H2.out.bel)).mono ?_
    rintro e w2 ⟨rfl, hb2⟩
    have H3 : Hid (K2 w w2 (fun _ => 0) (fun _ => 0)) := hide ⟨H2.out.a.below hb2, H2.out.b.below hb2, H2.out.bel.trans (hb2.mono H2.out.bel.size)⟩
    have HX2 := hide (HX1.out.below hb2)
    clear hb2 H2 HX1
    go_upto_region 3 with fail
    obtain ⟨W2, hW2⟩ : ∃ W2, w2.alloc (.cells #[.int .i64 (Y 0), .int .i64 (Y 1), .int .i64 (Y 2), .int .i64 (Y 3), .int .i64 (Y 4)] 112) = W2 := ⟨_, rfl⟩
    have hbw2 : Below w2.heap.size w2 W2 := by rw [← hW2]; exact (Below.refl _ _).alloc (Nat.le_refl _) _
    have HY3 : Hid (Clk W2 w.heap.size w2.heap.size Y) := by rw [← hW2]; exact hide (clk_new w2 _ _ rfl H3.out.bel.size Y)
    have H4 : Hid (K2 w W2 (fun _ => 0) (fun _ => 0)) := hide ⟨H3.out.a.below hbw2, H3.out.b.below hbw2, H3.out.bel.trans (hbw2.mono H3.out.bel.size)⟩
    have HX3 := hide (HX2.out.below hbw2)
    rw [hW2]
    obtain ⟨gy, hgy⟩ : ∃ gy, gy = w2.heap.size := ⟨_, rfl⟩
    rw [← hgy] at HY3 ⊢
    have hgy1 : w.heap.size + 1 < gy := by rw [hgy]; exact H3.out.b.lt
    clear hW2 hbw2 H3 HX2 hgy
    have x0 := HX3.out.cell 0 (by omega)
    have y0 := HY3.out.cell 0 (by omega)
    have r0 := H4.out.a.cell 0 (by omega)
    have f0 := H4.out.a.frozenAt 0
    have q0 := H4.out.b.cell 0 (by omega)
    have p0 := H4.out.b.frozenAt 0
    have x1 := HX3.out.cell 1 (by omega)
    have y1 := HY3.out.cell 1 (by omega)
    have r1 := H4.out.a.cell 1 (by omega)
    have f1 := H4.out.a.frozenAt 1
    have q1 := H4.out.b.cell 1 (by omega)
    have p1 := H4.out.b.frozenAt 1
    have x2 := HX3.out.cell 2 (by omega)
    have y2 := HY3.out.cell 2 (by omega)
    have r2 := H4.out.a.cell 2 (by omega)
    have f2 := H4.out.a.frozenAt 2
    have q2 := H4.out.b.cell 2 (by omega)
    have p2 := H4.out.b.frozenAt 2
    have x3 := HX3.out.cell 3 (by omega)
    have y3 := HY3.out.cell 3 (by omega)
    have r3 := H4.out.a.cell 3 (by omega)
    have f3 := H4.out.a.frozenAt 3
    have q3 := H4.out.b.cell 3 (by omega)
    have p3 := H4.out.b.frozenAt 3
    have x4 := HX3.out.cell 4 (by omega)
    have y4 := HY3.out.cell 4 (by omega)
    have r4 := H4.out.a.cell 4 (by omega)
    have f4 := H4.out.a.frozenAt 4
    have q4 := H4.out.b.cell 4 (by omega)
    have p4 := H4.out.b.frozenAt 4
    have hne1 : ¬ gx = w.heap.size := by omega
    have hne2 : ¬ gy = w.heap.size := by omega
    have hne3 : ¬ gx = w.heap.size + 1 := by omega
    have hne4 : ¬ gy = w.heap.size + 1 := by omega
    clear hgx1 hgy1 HX3 HY3
    go_region
    go_wp2
    refine bodyPost_ret (v := .tuple #[cv X, cv Y, .bool false]) (by simp [results, Try.f84, go_sem, *]) rfl ⟨rfl, ?_⟩
    exact ((((((((((H4.out.bel.setCell (p := ⟨w.heap.size, 0, none⟩) (by simp only; omega) _).setCell (p := ⟨w.heap.size, 1, none⟩) (by simp only; omega) _).setCell (p := ⟨w.heap.size, 2, none⟩) (by simp only; omega) _).setCell (p := ⟨w.heap.size, 3, none⟩) (by simp only; omega) _).setCell (p := ⟨w.heap.size, 4, none⟩) (by simp only; omega) _).setCell (p := ⟨w.heap.size + 1, 0, none⟩) (by simp only; omega) _).setCell (p := ⟨w.heap.size + 1, 1, none⟩) (by simp only; omega) _).setCell (p := ⟨w.heap.size + 1, 2, none⟩) (by simp only; omega) _).setCell (p := ⟨w.heap.size + 1, 3, none⟩) (by simp only; omega) _).setCell (p := ⟨w.heap.size + 1, 4, none⟩) (by simp only; omega) _).drew
  | true =>
    cases bb with
    | false =>
      obtain rfl : c = false := by cases c with
        | false => rfl
        | true => exact absurd (HC.out.1 rfl).1.2 (by simp)
      clear HC
      go_enter Try.func84, Try.ntmps84
      go_upto_region 1 with fail
      obtain ⟨W, hW⟩ : ∃ W, (w.alloc (.cells #[.int .i64 0, .int .i64 0, .int .i64 0, .int .i64 0, .int .i64 0] 112)).alloc (.cells #[.int .i64 0, .int .i64 0, .int .i64 0, .int .i64 0, .int .i64 0] 112) = W := ⟨_, rfl⟩
      have H0 : Hid (K2 w W (fun _ => 0) (fun _ => 0)) := by
        rw [← hW]
        exact hide ⟨(clk_zero w _ _ rfl (Nat.le_refl _)).alloc _, clk_zero _ _ _ (by simp) (by omega), ((Below.refl _ _).alloc (Nat.le_refl _) _).alloc (by simp) _⟩
      rw [hW]
      clear hW
      go_wp2_with fail
      refine (CA.out _ (HA.out.below H0.out.bel)).mono ?_
      rintro e w1 ⟨rfl, hb1⟩
      have H1 : Hid (K2 w w1 (fun _ => 0) (fun _ => 0)) := hide ⟨H0.out.a.below hb1, H0.out.b.below hb1, H0.out.bel.trans (hb1.mono H0.out.bel.size)⟩
      clear hb1 H0
      go_upto_region 2 with fail
      obtain ⟨W1, hW1⟩ : ∃ W1, w1.alloc (.cells #[.int .i64 (X 0), .int .i64 (X 1), .int .i64 (X 2), .int .i64 (X 3), .int .i64 (X 4)] 112) = W1 := ⟨_, rfl⟩
      have hbw1 : Below w1.heap.size w1 W1 := by rw [← hW1]; exact (Below.refl _ _).alloc (Nat.le_refl _) _
      have HX1 : Hid (Clk W1 w.heap.size w1.heap.size X) := by rw [← hW1]; exact hide (clk_new w1 _ _ rfl H1.out.bel.size X)
      have H2 : Hid (K2 w W1 (fun _ => 0) (fun _ => 0)) := hide ⟨H1.out.a.below hbw1, H1.out.b.below hbw1, H1.out.bel.trans (hbw1.mono H1.out.bel.size)⟩
      rw [hW1]
      obtain ⟨gx, hgx⟩ : ∃ gx, gx = w1.heap.size := ⟨_, rfl⟩
      rw [← hgx] at HX1 ⊢
      have hgx1 : w.heap.size + 1 < gx := by rw [hgx]; exact H1.out.b.lt
      clear hW1 hbw1 H1 hgx
      go_wp2_with fail
      refine (CB.out _ (HBB.out.below H2.out.bel)).mono ?_
      rintro e w2 ⟨rfl, hb2⟩
      have H3 : Hid (K2 w w2 (fun _ => 0) (fun _ => 0)) := hide ⟨H2.out.a.below hb2, H2.out.b.below hb2, H2.out.bel.trans (hb2.mono H2.out.bel.size)⟩
      have HX2 := hide (HX1.out.below hb2)
      clear hb2 H2 HX1
      go_upto_region 3 with fail
      obtain ⟨W2, hW2⟩ : ∃ W2, w2.alloc (.cells #[.int .i64 (Y 0), .int .i64 (Y 1), .int .i64 (Y 2), .int .i64 (Y 3), .int .i64 (Y 4)] 112) = W2 := ⟨_, rfl⟩
      have hbw2 : Below w2.heap.size w2 W2 := by rw [← hW2]; exact (Below.refl _ _).alloc (Nat.le_refl _) _
      have HY3 : Hid (Clk W2 w.heap.size w2.heap.size Y) := by rw [← hW2]; exact hide (clk_new w2 _ _ rfl H3.out.bel.size Y)
      have H4 : Hid (K2 w W2 (fun _ => 0) (fun _ => 0)) := hide ⟨H3.out.a.below hbw2, H3.out.b.below hbw2, H3.out.bel.trans (hbw2.mono H3.out.bel.size)⟩
      have HX3 := hide (HX2.out.below hbw2)
      rw [hW2]
      obtain ⟨gy, hgy⟩ : ∃ gy, gy = w2.heap.size := ⟨_, rfl⟩
      rw [← hgy] at HY3 ⊢
      have hgy1 : w.heap.size + 1 < gy := by rw [hgy]; exact H3.out.b.lt
      clear hW2 hbw2 H3 HX2 hgy
      have x0 := HX3.out.cell 0 (by omega)
      have y0 := HY3.out.cell 0 (by omega)
      have r0 := H4.out.a.cell 0 (by omega)
      have f0 := H4.out.a.frozenAt 0
      have q0 := H4.out.b.cell 0 (by omega)
      have p0 := H4.out.b.frozenAt 0
      have x1 := HX3.out.cell 1 (by omega)
      have y1 := HY3.out.cell 1 (by omega)
      have r1 := H4.out.a.cell 1 (by omega)
      have f1 := H4.out.a.frozenAt 1
      have q1 := H4.out.b.cell 1 (by omega)
      have p1 := H4.out.b.frozenAt 1
      have x2 := HX3.out.cell 2 (by omega)
      have y2 := HY3.out.cell 2 (by omega)
      have r2 := H4.out.a.cell 2 (by omega)
      have f2 := H4.out.a.frozenAt 2
      have q2 := H4.out.b.cell 2 (by omega)
      have p2 := H4.out.b.frozenAt 2
      have x3 := HX3.out.cell 3 (by omega)
      have y3 := HY3.out.cell 3 (by omega)
      have r3 := H4.out.a.cell 3 (by omega)
      have f3 := H4.out.a.frozenAt 3
      have q3 := H4.out.b.cell 3 (by omega)
      have p3 := H4.out.b.frozenAt 3
      have x4 := HX3.out.cell 4 (by omega)
      have y4 := HY3.out.cell 4 (by omega)
      have r4 := H4.out.a.cell 4 (by omega)
      have f4 := H4.out.a.frozenAt 4
      have q4 := H4.out.b.cell 4 (by omega)
      have p4 := H4.out.b.frozenAt 4
      have hne1 : ¬ gx = w.heap.size := by omega
      have hne2 : ¬ gy = w.heap.size := by omega
      have hne3 : ¬ gx = w.heap.size + 1 := by omega
      have hne4 : ¬ gy = w.heap.size + 1 := by omega
      clear hgx1 hgy1 HX3 HY3
      go_region
      go_wp2
      refine bodyPost_ret (v := .tuple #[cv X, cv Y, .bool false]) (by simp [results, Try.f84, go_sem, *]) rfl ⟨rfl, ?_⟩
      exact ((((((((((H4.out.bel.setCell (p := ⟨w.heap.size, 0, none⟩) (by simp only; omega) _).setCell (p := ⟨w.heap.size, 1, none⟩) (by simp only; omega) _).setCell (p := ⟨w.heap.size, 2, none⟩) (by simp only; omega) _).setCell (p := ⟨w.heap.size, 3, none⟩) (by simp only; omega) _).setCell (p := ⟨w.heap.size, 4, none⟩) (by simp only; omega) _).setCell (p := ⟨w.heap.size + 1, 0, none⟩) (by simp only; omega) _).setCell (p := ⟨w.heap.size + 1, 1, none⟩) (by simp only; omega) _).setCell (p := ⟨w.heap.size + 1, 2, none⟩) (by simp only; omega) _).setCell (p := ⟨w.heap.size + 1, 3, none⟩) (by simp only; omega) _).setCell (p := ⟨w.heap.size + 1, 4, none⟩) (by simp only; omega) _).drew
    | true =>
      by_cases hnk : n = k
      · obtain rfl : c = true := HC.out.2 ⟨⟨rfl, rfl⟩, hnk⟩
        subst hnk
        clear HC
        go_enter Try.func84, Try.ntmps84
        go_upto_region 1 with fail
        obtain ⟨W, hW⟩ : ∃ W, (w.alloc (.cells #[.int .i64 0, .int .i64 0, .int .i64 0, .int .i64 0, .int .i64 0] 112)).alloc (.cells #[.int .i64 0, .int .i64 0, .int .i64 0, .int .i64 0, .int .i64 0] 112) = W := ⟨_, rfl⟩
        have H0 : Hid (K2 w W (fun _ => 0) (fun _ => 0)) := by
          rw [← hW]
          exact hide ⟨(clk_zero w _ _ rfl (Nat.le_refl _)).alloc _, clk_zero _ _ _ (by simp) (by omega), ((Below.refl _ _).alloc (Nat.le_refl _) _).alloc (by simp) _⟩
        rw [hW]
        clear hW
        go_wp2_with fail
        refine (CA.out _ (HA.out.below H0.out.bel)).mono ?_
        rintro e w1 ⟨rfl, hb1⟩
        have H1 : Hid (K2 w w1 (fun _ => 0) (fun _ => 0)) := hide ⟨H0.out.a.below hb1, H0.out.b.below hb1, H0.out.bel.trans (hb1.mono H0.out.bel.size)⟩
        clear hb1 H0
        go_upto_region 2 with fail
        obtain ⟨W1, hW1⟩ : ∃ W1, w1.alloc (.cells #[.int .i64 (X 0), .int .i64 (X 1), .int .i64 (X 2), .int .i64 (X 3), .int .i64 (X 4)] 112) = W1 := ⟨_, rfl⟩
        have hbw1 : Below w1.heap.size w1 W1 := by rw [← hW1]; exact (Below.refl _ _).alloc (Nat.le_refl _) _
        have HX1 : Hid (Clk W1 w.heap.size w1.heap.size X) := by rw [← hW1]; exact hide (clk_new w1 _ _ rfl H1.out.bel.size X)
        have H2 : Hid (K2 w W1 (fun _ => 0) (fun _ => 0)) := hide ⟨H1.out.a.below hbw1, H1.out.b.below hbw1, H1.out.bel.trans (hbw1.mono H1.out.bel.size)⟩
        rw [hW1]
        obtain ⟨gx, hgx⟩ : ∃ gx, gx = w1.heap.size := ⟨_, rfl⟩
        rw [← hgx] at HX1 ⊢
        have hgx1 : w.heap.size + 1 < gx := by rw [hgx]; exact H1.out.b.lt
        clear hW1 hbw1 H1 hgx
        go_wp2_with fail
        refine (CB.out _ (HBB.out.below H2.out.bel)).mono ?_
        rintro e w2 ⟨rfl, hb2⟩
        have H3 : Hid (K2 w w2 (fun _ => 0) (fun _ => 0)) := hide ⟨H2.out.a.below hb2, H2.out.b.below hb2, H2.out.bel.trans (hb2.mono H2.out.bel.size)⟩
        have HX2 := hide (HX1.out.below hb2)
        clear hb2 H2 HX1
        go_upto_region 3 with fail
        obtain ⟨W2, hW2⟩ : ∃ W2, w2.alloc (.cells #[.int .i64 (Y 0), .int .i64 (Y 1), .int .i64 (Y 2), .int .i64 (Y 3), .int .i64 (Y 4)] 112) = W2 := ⟨_, rfl⟩
        have hbw2 : Below w2.heap.size w2 W2 := by rw [← hW2]; exact (Below.refl _ _).alloc (Nat.le_refl _) _
        have HY3 : Hid (Clk W2 w.heap.size w2.heap.size Y) := by rw [← hW2]; exact hide (clk_new w2 _ _ rfl H3.out.bel.size Y)
        have H4 : Hid (K2 w W2 (fun _ => 0) (fun _ => 0)) := hide ⟨H3.out.a.below hbw2, H3.out.b.below hbw2, H3.out.bel.trans (hbw2.mono H3.out.bel.size)⟩
        have HX3 := hide (HX2.out.below hbw2)
        rw [hW2]
        obtain ⟨gy, hgy⟩ : ∃ gy, gy = w2.heap.size := ⟨_, rfl⟩
        rw [← hgy] at HY3 ⊢
        have hgy1 : w.heap.size + 1 < gy := by rw [hgy]; exact H3.out.b.lt
        clear hW2 hbw2 H3 HX2 hgy
        have x0 := HX3.out.cell 0 (by omega)
        have y0 := HY3.out.cell 0 (by omega)
        have r0 := H4.out.a.cell 0 (by omega)
        have f0 := H4.out.a.frozenAt 0
        have q0 := H4.out.b.cell 0 (by omega)
        have p0 := H4.out.b.frozenAt 0
        have x1 := HX3.out.cell 1 (by omega)
        have y1 := HY3.out.cell 1 (by omega)
        have r1 := H4.out.a.cell 1 (by omega)
        have f1 := H4.out.a.frozenAt 1
        have q1 := H4.out.b.cell 1 (by omega)
        have p1 := H4.out.b.frozenAt 1
        have x2 := HX3.out.cell 2 (by omega)
        have y2 := HY3.out.cell 2 (by omega)
        have r2 := H4.out.a.cell 2 (by omega)
        have f2 := H4.out.a.frozenAt 2
        have q2 := H4.out.b.cell 2 (by omega)
        have p2 := H4.out.b.frozenAt 2
        have x3 := HX3.out.cell 3 (by omega)
        have y3 := HY3.out.cell 3 (by omega)
        have r3 := H4.out.a.cell 3 (by omega)
        have f3 := H4.out.a.frozenAt 3
        have q3 := H4.out.b.cell 3 (by omega)
        have p3 := H4.out.b.frozenAt 3
        have x4 := HX3.out.cell 4 (by omega)
        have y4 := HY3.out.cell 4 (by omega)
        have r4 := H4.out.a.cell 4 (by omega)
        have f4 := H4.out.a.frozenAt 4
        have q4 := H4.out.b.cell 4 (by omega)
        have p4 := H4.out.b.frozenAt 4
        have hne1 : ¬ gx = w.heap.size := by omega
        have hne2 : ¬ gy = w.heap.size := by omega
        have hne3 : ¬ gx = w.heap.size + 1 := by omega
        have hne4 : ¬ gy = w.heap.size + 1 := by omega
        clear hgx1 hgy1 HX3 HY3
        go_region
        go_wp2
        refine bodyPost_ret (v := .tuple #[cv X, cv Y, .bool true]) (by simp [results, Try.f84, go_sem, *]) rfl ⟨rfl, ?_⟩
        exact ((((((((((H4.out.bel.setCell (p := ⟨w.heap.size, 0, none⟩) (by simp only; omega) _).setCell (p := ⟨w.heap.size, 1, none⟩) (by simp only; omega) _).setCell (p := ⟨w.heap.size, 2, none⟩) (by simp only; omega) _).setCell (p := ⟨w.heap.size, 3, none⟩) (by simp only; omega) _).setCell (p := ⟨w.heap.size, 4, none⟩) (by simp only; omega) _).setCell (p := ⟨w.heap.size + 1, 0, none⟩) (by simp only; omega) _).setCell (p := ⟨w.heap.size + 1, 1, none⟩) (by simp only; omega) _).setCell (p := ⟨w.heap.size + 1, 2, none⟩) (by simp only; omega) _).setCell (p := ⟨w.heap.size + 1, 3, none⟩) (by simp only; omega) _).setCell (p := ⟨w.heap.size + 1, 4, none⟩) (by simp only; omega) _).drew
      · obtain rfl : c = false := by cases c with
          | false => rfl
          | true => exact absurd (HC.out.1 rfl).2 hnk
        have hnkI : ((n : Int) == (k : Int)) = false := by simp; omega
        clear HC hnk
        go_enter Try.func84, Try.ntmps84
        go_upto_region 1 with fail
        obtain ⟨W, hW⟩ : ∃ W, (w.alloc (.cells #[.int .i64 0, .int .i64 0, .int .i64 0, .int .i64 0, .int .i64 0] 112)).alloc (.cells #[.int .i64 0, .int .i64 0, .int .i64 0, .int .i64 0, .int .i64 0] 112) = W := ⟨_, rfl⟩
        have H0 : Hid (K2 w W (fun _ => 0) (fun _ => 0)) := by
          rw [← hW]
          exact hide ⟨(clk_zero w _ _ rfl (Nat.le_refl _)).alloc _, clk_zero _ _ _ (by simp) (by omega), ((Below.refl _ _).alloc (Nat.le_refl _) _).alloc (by simp) _⟩
        rw [hW]
        clear hW
        go_wp2_with fail
        refine (CA.out _ (HA.out.below H0.out.bel)).mono ?_
        rintro e w1 ⟨rfl, hb1⟩
        have H1 : Hid (K2 w w1 (fun _ => 0) (fun _ => 0)) := hide ⟨H0.out.a.below hb1, H0.out.b.below hb1, H0.out.bel.trans (hb1.mono H0.out.bel.size)⟩
        clear hb1 H0
        go_upto_region 2 with fail
        obtain ⟨W1, hW1⟩ : ∃ W1, w1.alloc (.cells #[.int .i64 (X 0), .int .i64 (X 1), .int .i64 (X 2), .int .i64 (X 3), .int .i64 (X 4)] 112) = W1 := ⟨_, rfl⟩
        have hbw1 : Below w1.heap.size w1 W1 := by rw [← hW1]; exact (Below.refl _ _).alloc (Nat.le_refl _) _
        have HX1 : Hid (Clk W1 w.heap.size w1.heap.size X) := by rw [← hW1]; exact hide (clk_new w1 _ _ rfl H1.out.bel.size X)
        have H2 : Hid (K2 w W1 (fun _ => 0) (fun _ => 0)) := hide ⟨H1.out.a.below hbw1, H1.out.b.below hbw1, H1.out.bel.trans (hbw1.mono H1.out.bel.size)⟩
        rw [hW1]
        obtain ⟨gx, hgx⟩ : ∃ gx, gx = w1.heap.size := ⟨_, rfl⟩
        rw [← hgx] at HX1 ⊢
        have hgx1 : w.heap.size + 1 < gx := by rw [hgx]; exact H1.out.b.lt
        clear hW1 hbw1 H1 hgx
        go_wp2_with fail
        refine (CB.out _ (HBB.out.below H2.out.bel)).mono ?_
        rintro e w2 ⟨rfl, hb2⟩
        have H3 : Hid (K2 w w2 (fun _ => 0) (fun _ => 0)) := hide ⟨H2.out.a.below hb2, H2.out.b.below hb2, H2.out.bel.trans (hb2.mono H2.out.bel.size)⟩
        have HX2 := hide (HX1.out.below hb2)
        clear hb2 H2 HX1
        go_upto_region 3 with fail
        obtain ⟨W2, hW2⟩ : ∃ W2, w2.alloc (.cells #[.int .i64 (Y 0), .int .i64 (Y 1), .int .i64 (Y 2), .int .i64 (Y 3), .int .i64 (Y 4)] 112) = W2 := ⟨_, rfl⟩
        have hbw2 : Below w2.heap.size w2 W2 := by rw [← hW2]; exact (Below.refl _ _).alloc (Nat.le_refl _) _
        have HY3 : Hid (Clk W2 w.heap.size w2.heap.size Y) := by rw [← hW2]; exact hide (clk_new w2 _ _ rfl H3.out.bel.size Y)
        have H4 : Hid (K2 w W2 (fun _ => 0) (fun _ => 0)) := hide ⟨H3.out.a.below hbw2, H3.out.b.below hbw2, H3.out.bel.trans (hbw2.mono H3.out.bel.size)⟩
        have HX3 := hide (HX2.out.below hbw2)
        rw [hW2]
        obtain ⟨gy, hgy⟩ : ∃ gy, gy = w2.heap.size := ⟨_, rfl⟩
        rw [← hgy] at HY3 ⊢
        have hgy1 : w.heap.size + 1 < gy := by rw [hgy]; exact H3.out.b.lt
        clear hW2 hbw2 H3 HX2 hgy
        have x0 := HX3.out.cell 0 (by omega)
        have y0 := HY3.out.cell 0 (by omega)
        have r0 := H4.out.a.cell 0 (by omega)
        have f0 := H4.out.a.frozenAt 0
        have q0 := H4.out.b.cell 0 (by omega)
        have p0 := H4.out.b.frozenAt 0
        have x1 := HX3.out.cell 1 (by omega)
        have y1 := HY3.out.cell 1 (by omega)
        have r1 := H4.out.a.cell 1 (by omega)
        have f1 := H4.out.a.frozenAt 1
        have q1 := H4.out.b.cell 1 (by omega)
        have p1 := H4.out.b.frozenAt 1
        have x2 := HX3.out.cell 2 (by omega)
        have y2 := HY3.out.cell 2 (by omega)
        have r2 := H4.out.a.cell 2 (by omega)
        have f2 := H4.out.a.frozenAt 2
        have q2 := H4.out.b.cell 2 (by omega)
        have p2 := H4.out.b.frozenAt 2
        have x3 := HX3.out.cell 3 (by omega)
        have y3 := HY3.out.cell 3 (by omega)
        have r3 := H4.out.a.cell 3 (by omega)
        have f3 := H4.out.a.frozenAt 3
        have q3 := H4.out.b.cell 3 (by omega)
        have p3 := H4.out.b.frozenAt 3
        have x4 := HX3.out.cell 4 (by omega)
        have y4 := HY3.out.cell 4 (by omega)
        have r4 := H4.out.a.cell 4 (by omega)
        have f4 := H4.out.a.frozenAt 4
        have q4 := H4.out.b.cell 4 (by omega)
        have p4 := H4.out.b.frozenAt 4
        have hne1 : ¬ gx = w.heap.size := by omega
        have hne2 : ¬ gy = w.heap.size := by omega
        have hne3 : ¬ gx = w.heap.size + 1 := by omega
        have hne4 : ¬ gy = w.heap.size + 1 := by omega
        clear hgx1 hgy1 HX3 HY3
        go_region
        go_wp2
        refine bodyPost_ret (v := .tuple #[cv X, cv Y, .bool false]) (by simp [results, Try.f84, go_sem, *]) rfl ⟨rfl, ?_⟩
        exact ((((((((((H4.out.bel.setCell (p := ⟨w.heap.size, 0, none⟩) (by simp only; omega) _).setCell (p := ⟨w.heap.size, 1, none⟩) (by simp only; omega) _).setCell (p := ⟨w.heap.size, 2, none⟩) (by simp only; omega) _).setCell (p := ⟨w.heap.size, 3, none⟩) (by simp only; omega) _).setCell (p := ⟨w.heap.size, 4, none⟩) (by simp only; omega) _).setCell (p := ⟨w.heap.size + 1, 0, none⟩) (by simp only; omega) _).setCell (p := ⟨w.heap.size + 1, 1, none⟩) (by simp only; omega) _).setCell (p := ⟨w.heap.size + 1, 2, none⟩) (by simp only; omega) _).setCell (p := ⟨w.heap.size + 1, 3, none⟩) (by simp only; omega) _).setCell (p := ⟨w.heap.size + 1, 4, none⟩) (by simp only; omega) _).drew
end Go.Proofs.Ytkfnejiiancmhad.L11

namespace Go.Proofs.Ytkfnejiiancmhad.L11
open Go.RowKit L1 Own
set_option linter.unusedVariables false

theorem info_sl11 : (Try.prog.info? 27).map (fun i => (i.zero, i.size, i.bytes)) = some (some (.slice none 0 0), 1, 24) := by kernel_rfl
theorem sv_push {w W w6 : World} {B T : Nat} {ot v6 : Value} {k N : Nat} {bs cs : Nat → Nat} {G : Nat → Nat → Int} (h : SV w B T ot k N bs cs G) (q c : Nat) (hq : T ≤ q) (hr : w.ownsRow B 3 1 (.slice (some ⟨q, 0, none⟩) N c) N (lA N (G k))) (hW : Below w.heap.size w W)
    (h6 : w6.ownsRow B 27 1 v6 (k + 1) (lS k N bs cs ++ [.slice (some ⟨q, 0, none⟩) N c])) (hg : W.grownBy w6 ot.ownBlock) : SW w6 B w6.heap.size v6 (k + 1) N G := by
  have hqo : ot.ownBlock ≠ some q := fun e => by have := h.top q e; omega
  have hkeep : ∀ r, r < w.heap.size → ot.ownBlock ≠ some r → w6.heap[r]? = w.heap[r]? := fun r h1 h2 => (hg.block r (Nat.lt_of_lt_of_le h1 hW.size) (Ne.symm h2)).trans (hW.block r h1)
  have hrow : ∀ i, i < k + 1 → w6.ownsRow B 3 1 (.slice (some ⟨if i = k then q else bs i, 0, none⟩) N (if i = k then c else cs i)) N (lA N (G i)) := fun i hi => by
    by_cases e : i = k
    · subst e
      rw [if_pos rfl, if_pos rfl]
      exact own_blkS hr (fun r hr2 => by
        have h5 : q = r := by simpa [Value.ownBlock] using hr2
        rw [← h5]
        exact hkeep q ((hr.lt q rfl).2) hqo)
    · rw [if_neg e, if_neg e]
      exact own_blkS (h.row i (by omega)) (fun r hr2 => by
        have h5 : bs i = r := by simpa [Value.ownBlock] using hr2
        rw [← h5]
        exact hkeep (bs i) (((h.row i (by omega)).lt (bs i) rfl).2) (h.two i (by omega)))
  refine ⟨fun i => if i = k then q else bs i, fun i => if i = k then c else cs i, ?_, fun r hr => (h6.lt r hr).2, hrow, fun i hi => ((hrow i hi).lt _ rfl).2, fun i j hi hj e => ?_⟩
  · rw [lS_succ, if_pos rfl, if_pos rfl]
    have e2 : lS k N (fun i => if i = k then q else bs i) (fun i => if i = k then c else cs i) = lS k N bs cs := lS_congr k N _ _ _ _ (fun i hi => by
      have : i ≠ k := by omega
      simp [this])
    rw [e2]
    exact h6
  · (try dsimp only at e)
    by_cases hik : i = k
    · by_cases hjk : j = k
      · omega
      · rw [if_pos hik, if_neg hjk] at e
        have := h.rtop j (by omega)
        omega
    · by_cases hjk : j = k
      · rw [if_neg hik, if_pos hjk] at e
        have := h.rtop i (by omega)
        omega
      · rw [if_neg hik, if_neg hjk] at e
        exact h.inj i j (by omega) (by omega) e
theorem cell_sl11 (w : World) (g : Nat) (hg : w.heap.size = g) (p : Value) (t : TypeId) : ∀ j u, [p][j]? = some u → (w.alloc (.cells #[p] t)).cell? ((⟨g, 0, none⟩ : Addr).add j) = some u := by
  subst hg
  intro j u h
  rw [addr_add]
  match j, h with
  | 0, h => simp at h; subst h; simp
  | j + 1, h => simp at h
theorem lS_one (k N : Nat) (bs cs : Nat → Nat) : ∀ u ∈ [Value.slice (some ⟨k, 0, none⟩) N k], u.oneCell' = true := by intro u hu; simp at hu; subst hu; rfl
/-- What ClocksOf hands back. -/
def RetS (w : World) (b : Bool) (n N : Nat) (G : Nat → Nat → Int) (e : Ending) (w' : World) : Prop :=
  ∃ v, e = .returned (.tuple #[v, .bool b]) ∧ SW w' w.heap.size w'.heap.size v n N G ∧ Below w.heap.size w w'
end Go.Proofs.Ytkfnejiiancmhad.L11

namespace Go.Proofs.Ytkfnejiiancmhad.L11
open Go.RowKit L1 Own
set_option linter.unusedVariables false

theorem own_mt11 (w : World) (base : Nat) (h : base ≤ w.heap.size) : (w.alloc (.cells #[] 3)).ownsRow base 3 1 (.slice (some ⟨w.heap.size, 0, none⟩) 0 0) 0 [] :=
  ⟨rfl, .inr ⟨w.heap.size, 0, #[], rfl, h, by show (w.heap.push _)[w.heap.size]? = _; exact Array.getElem?_push_size, Nat.le_refl _, by unfold maxLen; omega, rfl, rfl⟩⟩
theorem sl_clL {w : World} {a : Option Addr} {E : Nat → Int} {n : Nat} (h : Sl w a (clL E n)) (h1 : 1 ≤ n) : ∃ b off, a = some ⟨b, off, none⟩ ∧ ∀ i, i < n → w.cell? ⟨b, off + i, none⟩ = some (.int .i64 (E i)) := by
  obtain ⟨b, off, rfl, _⟩ := h 0 (by rw [clL_len]; omega)
  refine ⟨b, off, rfl, fun i hi => ?_⟩
  have := h.at i (by rw [clL_len]; exact hi)
  rw [this]
  simp [clL, List.getD, hi]
set_option maxRecDepth 100000 in
set_option maxHeartbeats 4000000 in
theorem l11Most_any (a b : Option Addr) (E F : Nat → Int) (n ca cb : Nat) (w : World) (ha : Sl w a (clL E n)) (hb : Sl w b (clL F n)) (h1 : 1 ≤ n) (hn2 : n ≤ 1048576) :
    Calls Try.prog 95 #[.slice a n ca, .slice b n cb] w fun e w' => ∃ v, e = .returned v ∧ w'.ownsRow w.heap.size 3 1 v n ((clL (jn E F) n).map (Value.int .i64)) ∧ Below w.heap.size w w' := by
  obtain ⟨i1, hi1, hy0, hy1, hy2⟩ := info_parts info_int
  obtain ⟨ab, ao, rfl, hA⟩ := sl_clL ha h1
  obtain ⟨bb, bo, rfl, hB⟩ := sl_clL hb h1
  have hnews : ∀ j u, ((clL E n).map (Value.int .i64))[j]? = some u → (w.alloc (.cells #[] 3)).cell? ((⟨ab, ao, none⟩ : Addr).add j) = some u := fun j u h => by
    rw [clL_lA] at h
    have hj : j < n := by
      by_cases h2 : j < n
      · exact h2
      · rw [List.getElem?_eq_none (by simp [lA]; omega)] at h; cases h
    rw [lA_get n E j hj] at h
    cases h
    have h3 := hA j hj
    have h4 := (((Below.refl w.heap.size w).alloc (Nat.le_refl _) (.cells #[] 3)).cell (p := ⟨ab, ao + j, none⟩) (blk_lt h3)).trans h3
    have e : (⟨ab, ao, none⟩ : Addr).add j = ⟨ab, ao + j, none⟩ := by unfold Addr.add; split <;> simp_all
    rw [e]
    exact h4
  have HNW := hide hnews
  have HB := hide hB
  clear hnews hA hB ha hb
  go_enter Try.func95, Try.ntmps95
  go_wp2_with (first
    | (at_builtin; refine wpList_append_own_at _ rfl _ _ 27 rfl w.heap.size 3 i1 (.int .i64 0) 1 8 Try.underlying27 hi1 hy0 hy1 hy2 rfl (by decide) _ _ _ rfl (own_mt11 w w.heap.size (Nat.le_refl _)) ⟨ab, ao, none⟩ n ca ((clL E n).map (Value.int .i64)) rfl (by simp [clL_len]) HNW.out (by intro u hu; simp at hu; obtain ⟨q, _, rfl⟩ := hu; rfl) (by unfold maxLen; omega) (by omega) (by simp) ?_)
    | go_in)
  intro v6 w6 hown6 hgrow6 hnil6 _
  have hb6 : Below w.heap.size w w6 := ((Below.refl _ _).alloc (Nat.le_refl _) _).grown hgrow6 (by simp) (fun q hq => (own_mt11 w w.heap.size (Nat.le_refl _)).lt q hq |>.1)
  have hown7 : w6.ownsRow w.heap.size 3 1 v6 n (lA n (jnK E F 0)) := by
    have h := hown6
    rw [clL_lA] at h
    exact h
  obtain ⟨g, cap, rfl⟩ : ∃ g cap, v6 = .slice (some ⟨g, 0, none⟩) n cap := by
    rcases hown7.2 with ⟨_, h0⟩ | ⟨g, cap, cur, hv, _⟩
    · omega
    · exact ⟨g, cap, hv⟩
  have HO := hide hown7
  have HB6 := hide hb6
  clear hown6 hgrow6 hnil6 hown7 hb6 HNW
  go_wp2
  go_loopw [13] (fun i wr => ∃ k : Nat, k ≤ n ∧ i = .int .i64 k ∧ Hid (wr.ownsRow w.heap.size 3 1 (.slice (some ⟨g, 0, none⟩) n cap) n (lA n (jnK E F k))) ∧ Hid (Below w.heap.size w wr)) (fun i _ => n - (intOf i).toNat)
  case atStart => exact ⟨0, Nat.zero_le _, rfl, HO, HB6⟩
  case round =>
    obtain ⟨k, hk, rfl, HR, HBL⟩ := hrel
    by_cases hlt : k < n
    · have hltI : (k : Int) < (n : Int) := by omega
      have hk0 : (0 : Int) ≤ (k : Int) := by omega
      have hb0 := HB.out k hlt
      have hcb := (HBL.out.cell (p := ⟨bb, bo + k, none⟩) (blk_lt hb0)).trans hb0
      have hca := (HR.out.cellAt k (by omega)).trans (lA_get n (jnK E F k) k hlt)
      rw [jnK_self] at hca
      have hfa := HR.out.frozenAt k
      have hsu := jnK_succ E F k
      have hge := (HR.out.lt g rfl).1
      obtain ⟨x, hx⟩ : ∃ x, x = E k := ⟨_, rfl⟩
      obtain ⟨y, hy⟩ : ∃ y, y = F k := ⟨_, rfl⟩
      rw [← hx] at hca hsu
      rw [← hy] at hcb hsu
      by_cases hxy : x < y
      · have HN : Hid ((wr.setCell ⟨g, k, none⟩ (.int .i64 y)).ownsRow w.heap.size 3 1 (.slice (some ⟨g, 0, none⟩) n cap) n (lA n (jnK E F (k + 1)))) := hide (by
          have h3 := (HR.out.stored k (.int .i64 y)).1
          rw [lA_upd] at h3
          have h4 : lA n (updI (jnK E F k) k y) = lA n (jnK E F (k + 1)) := lA_congr n _ _ (fun i _ => by rw [← hsu i, show max x y = y by omega])
          rw [h4] at h3
          exact h3)
        have HB2 : Hid (Below w.heap.size w (wr.setCell ⟨g, k, none⟩ (.int .i64 y))) := hide (HBL.out.setCell (p := ⟨g, k, none⟩) hge _)
        clear hx hy hsu hb0 HR HBL
        go_wp2
        go_roundw
        case rel => exact ⟨k + 1, by omega, by go_num, HN, HB2⟩
        case measure => simp [intOf]; omega
      · have HN : Hid (wr.ownsRow w.heap.size 3 1 (.slice (some ⟨g, 0, none⟩) n cap) n (lA n (jnK E F (k + 1)))) := hide (by
          have h4 : lA n (jnK E F k) = lA n (jnK E F (k + 1)) := lA_congr n _ _ (fun i _ => by
            rw [← hsu i]
            unfold updI
            by_cases e : i = k
            · subst e; rw [if_pos rfl, jnK_self, ← hx]; omega
            · rw [if_neg e])
          rw [← h4]
          exact HR.out)
        clear hx hy hsu hb0 HR
        go_wp2
        go_roundw
        case rel => exact ⟨k + 1, by omega, by go_num, HN, HBL⟩
        case measure => simp [intOf]; omega
    · obtain rfl : k = n := by omega
      have hltI : ¬ (k : Int) < (k : Int) := by omega
      have HF : Hid (wr.ownsRow w.heap.size 3 1 (.slice (some ⟨g, 0, none⟩) k cap) k ((clL (jn E F) k).map (Value.int .i64))) := hide (by
        rw [clL_lA]
        have h4 : lA k (jnK E F k) = lA k (jn E F) := lA_congr k _ _ (fun i hi => by unfold jnK jn; rw [if_pos hi])
        rw [← h4]
        exact HR.out)
      clear HR
      go_wp2
      go_ret
      exact ⟨_, rfl, HF.out, HBL.out⟩
end Go.Proofs.Ytkfnejiiancmhad.L11

namespace Go.Proofs.Ytkfnejiiancmhad.L11
open Go.RowKit L1 Own
set_option linter.unusedVariables false

/-- The number of each event among those of its node. -/
def atL (l : List Ev) (k : Nat) : List Int := (List.range k).map fun j => cnt l (nd l j) (j + 1)
theorem atL_len (l : List Ev) (k : Nat) : (atL l k).length = k := by simp [atL]
theorem atL_succ (l : List Ev) (k : Nat) : atL l (k + 1) = atL l k ++ [cnt l (nd l k) (k + 1)] := by simp [atL, List.range_succ]
theorem atL_get (l : List Ev) (k i : Nat) (h : i < k) : (atL l k).getD i 0 = cnt l (nd l i) (i + 1) := by simp [atL, List.getD, h]
def cntN (l : List Ev) (k : Nat) : Nat → Int := fun i => cnt l (i : Int) k
theorem cntN_succ (l : List Ev) (k x : Nat) (hx : nd l k = (x : Int)) (i : Nat) : updI (cntN l k) x (cntN l k x + 1) i = cntN l (k + 1) i := by
  unfold updI cntN
  show _ = cnt l (i : Int) k + _
  by_cases e : i = x
  · subst e; rw [if_pos rfl, if_pos hx]
  · rw [if_neg e, if_neg (by omega)]; omega
theorem made_lA (n : Nat) : (madeCells (Value.int .i64 0).cells (n * 1)).toList = lA n (fun _ => 0) := by
  rw [made_ints]
  apply List.ext_getElem?
  intro j
  by_cases h : j < n
  · rw [lA_get n _ j h]; simp [h]
  · rw [List.getElem?_eq_none (by simp; omega), List.getElem?_eq_none (by simp [lA]; omega)]
theorem cell_oneA (w : World) (g : Nat) (hg : w.heap.size = g) (p : Value) (t : TypeId) : ∀ j u, [p][j]? = some u → (w.alloc (.cells #[p] t)).cell? ((⟨g, 0, none⟩ : Addr).add j) = some u := by
  subst hg
  intro j u h
  rw [addr_add]
  match j, h with
  | 0, h => simp at h; subst h; simp
  | j + 1, h => simp at h
theorem own_setA {w : World} {base n c : Nat} {t : TypeId} {v : Value} {xs : List Value} (h : w.ownsRow base t c v n xs) (g i : Nat) (u : Value) (hg : g < base) : (w.setCell ⟨g, i, none⟩ u).ownsRow base t c v n xs := by
  refine ⟨h.1, ?_⟩
  rcases h.2 with h0 | ⟨q, cap, cur, hv, hb, hh, rest⟩
  · exact .inl h0
  · exact .inr ⟨q, cap, cur, hv, hb, by rw [Below.heap_setCell w ⟨g, i, none⟩ u q (show q ≠ g by omega)]; exact hh, rest⟩
theorem arr_grownA {w w' : World} {t : TypeId} {n base g : Nat} {E : Nat → Int} {r : Option Nat} (h : Arr t n w base g E) (hg : w.grownBy w' r) (hne : r ≠ some g) : Arr t n w' base g E :=
  World.ownsRow.kept h hg (.inr (fun e => hne e.symm))
end Go.Proofs.Ytkfnejiiancmhad.L11

namespace Go.Proofs.Ytkfnejiiancmhad.L11
open Go.RowKit L1 Own
set_option linter.unusedVariables false

theorem sl_of_lA {w : World} {B g n cap : Nat} {E : Nat → Int} (h : w.ownsRow B 3 1 (.slice (some ⟨g, 0, none⟩) n cap) n (lA n E)) : Sl w (some ⟨g, 0, none⟩) (clL E n) := fun j hj => by
  have hj' : j < n := by simpa [clL] using hj
  have h1 := h.cellAt j (by omega)
  rw [lA_get n E j hj'] at h1
  exact ⟨g, 0, rfl, by rw [Nat.zero_add, h1]; simp [clL, List.getD, hj']⟩
set_option maxRecDepth 100000 in
set_option maxHeartbeats 8000000 in
theorem l11Clocks_any (Nn : Nat) (a : Option Addr) (l : List (Int × Int)) (n cap : Nat) (w : World) (hn : l.length = n) (hs : Sl2 w a l) (hg : GoodV (Nn : Int) l) :
    Calls Try.prog 81 #[.int .i64 Nn, .slice a n cap] w fun e w' => ∃ v, e = .returned v ∧ SW w' w.heap.size w'.heap.size v n Nn (cE l) ∧ Below w.heap.size w w' := by
  have h40 : n ≤ 40 := by have := hg.2.2.1; omega
  have HN1 : Hid (1 ≤ Nn) := hide (by have := hg.1; omega)
  have hN5 : Nn ≤ 5 := by have := hg.2.1; omega
  have hNI : (0 : Int) ≤ (Nn : Int) := by omega
  obtain ⟨i1, hi1, hy0, hy1, hy2⟩ := info_parts info_int
  obtain ⟨j1, hj1, hz0, hz1, hz2⟩ := info_parts info_sl11
  have HG := hide hg
  have HS := hide hs
  have HN := hide hn
  clear hg hs hn
  go_enter Try.func81, Try.ntmps81
  go_wp2
  go_loopw [5, 12] (fun ot i wr => ∃ k : Nat, k ≤ n ∧ i = .int .i64 k ∧ Hid (SW wr w.heap.size wr.heap.size ot k Nn (cE l)) ∧ Hid (Below w.heap.size w wr)) (fun _ i _ => n - (intOf i).toNat)
  case atStart => exact ⟨0, Nat.zero_le _, rfl, SW.nil _ _ _ _ _, Below.refl _ _⟩
  case round =>
    obtain ⟨k, hk, rfl, HW, HB⟩ := hrel
    obtain ⟨bs, cs, hV⟩ := HW.out
    obtain ⟨ta, tcap, hot⟩ := hV.form
    subst hot
    by_cases hlt : k < n
    · have hv := HG.out.2.2.2 k (by rw [HN.out]; exact hlt)
      obtain ⟨xn, hx⟩ : ∃ xn : Nat, nd l k = (xn : Int) := ⟨(nd l k).toNat, by have := hv.1; omega⟩
      have hxN : xn < Nn := by have := hv.2.1; omega
      have hsl := HS.out.below HB.out
      obtain ⟨b, off, rfl, q1, q2⟩ := hsl k (by rw [HN.out]; exact hlt)
      clear q1 q2
      obtain ⟨hc, hd⟩ := hsl.two k (by rw [HN.out]; exact hlt)
      rw [hx] at hc
      obtain ⟨y, hy⟩ : ∃ y, y = fr l k := ⟨_, rfl⟩
      rw [← hy] at hd
      obtain ⟨p, hp⟩ : ∃ p, p = pri l (nd l k) k := ⟨_, rfl⟩
      have CP := hide (fun w hs => prior_any b off l n cap k w HN.out hs hlt (by omega) p hp)
      have hltI : (k : Int) < (n : Int) := by omega
      have hxI : (xn : Int) < (Nn : Int) := by omega
      have hx0 : (0 : Int) ≤ (xn : Int) := by omega
      have hplt := pri_lt l (nd l k) k
      have hpge := pri_ge l (nd l k) k
      rw [← hp] at hplt hpge
      have hcl : ∀ i : Nat, clk l k (i : Int) = max (clkO l p (i : Int)) (clkO l y (i : Int)) + if (i : Int) = (xn : Int) then 1 else 0 := fun i => by
        rw [clk_eq l k _ hv.2.2.2.1, hx, hp, hx, hy]
      have hylt : y < (k : Int) := by rw [hy]; exact hv.2.2.2.1
      have hyge : -1 ≤ y := by rw [hy]; exact hv.2.2.1
      have HCL := hide hcl
      have HSL := hide hsl
      have HVr := hide hV
      have HWE0 := hide HB.out.size
      clear hx hv hsl hy hp hcl hV HW
      go_upto_region 5 with fail
      obtain ⟨W0, hW0⟩ : ∃ W0, wr.alloc (.cells #[.int .i64 xn, .int .i64 y] 118) = W0 := ⟨_, rfl⟩
      have hbw : Below wr.heap.size wr W0 := by rw [← hW0]; exact (Below.refl _ _).alloc (Nat.le_refl _) _
      have E00 : Hid (W0.cell? ⟨wr.heap.size, 0, none⟩ = some (.int .i64 xn)) := by rw [← hW0]; exact hide (by simp)
      have E10 : Hid (W0.cell? ⟨wr.heap.size, 1, none⟩ = some (.int .i64 y)) := by rw [← hW0]; exact hide (by simp)
      have HV0 := hide (HVr.out.below hbw)
      have HB0 := hide (HB.out.trans (hbw.mono HB.out.size))
      have HS0 := hide (HSL.out.below hbw)
      have hzz := hbw.size
      rw [hW0]
      obtain ⟨eb, heb⟩ : ∃ eb, eb = wr.heap.size := ⟨_, rfl⟩
      rw [← heb] at E00 E10 HV0 hzz HWE0 ⊢
      have HWE : Hid (w.heap.size ≤ eb) := HWE0
      clear hW0 hbw heb HVr HB HSL HWE0 hc hd
      obtain ⟨wm, hmk, hown1, hg1⟩ := run_make_full (P := Try.prog) W0 W0.heap.size 27 3 i1 (.int .i64 0) 1 Try.underlying27 hi1 hy0 hy1 .i64 .i64 Nn (by rw [hy2]; omega) (by unfold maxLen; omega) (Nat.le_refl _)
      rw [made_lA] at hown1
      have hbm : Below W0.heap.size W0 wm := (Below.refl _ _).grown hg1 (Nat.le_refl _) (fun k hk => by cases hk)
      have HCR0 : Hid (wm.ownsRow w.heap.size 3 1 (.slice (some ⟨W0.heap.size, 0, none⟩) Nn Nn) Nn (lA Nn (fun _ => 0))) := hide (own_baseT hown1 HB0.out.size)
      have HVM := hide (HV0.out.below hbm)
      have BM := hide (HB0.out.trans (hbm.mono HB0.out.size))
      have HSM := hide (HS0.out.below hbm)
      have E0M := hide ((hbm.cell (p := ⟨eb, 0, none⟩) (blk_lt E00.out)).trans E00.out)
      have E1M := hide ((hbm.cell (p := ⟨eb, 1, none⟩) (blk_lt E10.out)).trans E10.out)
      go_upto_region 6 with fail
      obtain ⟨cq, hcq⟩ : ∃ cq, cq = W0.heap.size := ⟨_, rfl⟩
      rw [← hcq] at HCR0 hzz ⊢
      clear hmk hown1 hg1 hbm hcq HV0 HB0 HS0 E00 E10
      go_wp2_with fail
      refine (CP.out _ HSM.out).mono ?_
      rintro e w2 ⟨rfl, hb2⟩
      have HCR2 := hide (own_belowT HCR0.out hb2)
      have HV2 := hide (HVM.out.below hb2)
      have B2 := hide (BM.out.trans (hb2.mono BM.out.size))
      have E02 := hide ((hb2.cell (p := ⟨eb, 0, none⟩) (blk_lt E0M.out)).trans E0M.out)
      have E12 := hide ((hb2.cell (p := ⟨eb, 1, none⟩) (blk_lt E1M.out)).trans E1M.out)
      clear hb2 HCR0 HVM BM HSM E0M E1M CP
      obtain ⟨cc, hcc⟩ : ∃ cc, cc = Nn := ⟨_, rfl⟩
      have HCR3 : Hid (w2.ownsRow w.heap.size 3 1 (.slice (some ⟨cq, 0, none⟩) Nn cc) Nn (lA Nn (fun _ => 0))) := by rw [hcc]; exact HCR2
      have hsl0 : Value.slice (some ⟨cq, 0, none⟩) Nn Nn = .slice (some ⟨cq, 0, none⟩) Nn cc := by rw [hcc]
      rw [hsl0]
      clear HCR2 hcc hsl0
      by_cases hp0 : p < 0
      · by_cases hy0' : y < 0
        · clear hpge hyge
          have hpb : ¬ 0 ≤ p := by omega
          have HM1 : Hid (∀ i : Nat, (0 : Int) = clkO l p (i : Int)) := hide (fun i => by unfold clkO; rw [if_neg hpb])
          have hyb : ¬ 0 ≤ y := by omega
          have e0 := E02.out
          have e1 := E12.out
          obtain ⟨VW, hVW⟩ : ∃ VW, VW = w2 := ⟨_, rfl⟩
          have HVV0 : Hid (SV VW w.heap.size eb (.slice ta k tcap) k Nn bs cs (cE l)) := by rw [hVW]; exact HV2
          have BVV0 : Hid (Below w.heap.size w VW) := by rw [hVW]; exact B2
          have HCQN : Hid (eb ≤ cq) := hide hzz
          obtain ⟨M, hM⟩ : ∃ M : Nat → Int, M = (fun _ => 0) := ⟨_, rfl⟩
          have HCRN : Hid (VW.ownsRow w.heap.size 3 1 (.slice (some ⟨cq, 0, none⟩) Nn cc) Nn (lA Nn M)) := by rw [hM, hVW]; exact HCR3
          have hMe : ∀ i : Nat, M i = max (clkO l p (i : Int)) (clkO l y (i : Int)) := fun i => by
            have h1 : clkO l y (i : Int) = 0 := by unfold clkO; rw [if_neg hyb]
            have h2 := clkO_nn l p (i : Int)
            rw [hM, h1, ← HM1.out i]
            rw [← HM1.out i] at h2
            (try dsimp only)
            omega
          rw [← hVW] at e0 e1 ⊢
          have HMB : Hid (∀ i : Nat, i < 5 → 0 ≤ M i ∧ M i ≤ (k : Int)) := hide (fun i _ => by
            have h1 := clkO_bd l p k (by omega) (i : Int)
            have h2 := clkO_bd l y k (by omega) (i : Int)
            rw [hMe]; omega)
          have HM : Hid (∀ i : Nat, i < 5 → (M i + if i = xn then 1 else 0) = cE l k i) := hide (fun i _ => by
            have h1 := HCL.out i
            show _ = clk l k (i : Int)
            rw [h1, hMe]
            by_cases e : i = xn
            · rw [if_pos e, if_pos (by omega)]
            · rw [if_neg e, if_neg (by omega)])
          clear hVW hM HV2 B2 HCR3 E02 E12
          clear hMe HM1 HCL
          have hcx := (HCRN.out.cellAt xn (by omega)).trans (lA_get Nn M xn hxN)
          have hcf := HCRN.out.frozenAt xn
          have hMb := HMB.out xn (by omega)
          obtain ⟨mx, hmx⟩ : ∃ mx, mx = M xn := ⟨_, rfl⟩
          rw [← hmx] at hcx hMb
          have hmb0 := hMb.1
          have hmb1 : mx ≤ 40 := by omega
          have HMX := hide hmx
          clear hmx hMb
          go_upto_region 12 with fail
          obtain ⟨V5, hV5⟩ : ∃ V5, VW.setCell ⟨cq, xn, none⟩ (.int .i64 (mx + 1)) = V5 := ⟨_, rfl⟩
          have HR5 : Hid (V5.ownsRow w.heap.size 3 1 (.slice (some ⟨cq, 0, none⟩) Nn cc) Nn (lA Nn (cE l k))) := by
            rw [← hV5]
            have h1 := (HCRN.out.stored xn (.int .i64 (mx + 1))).1
            rw [lA_upd] at h1
            have h2 : lA Nn (updI M xn (mx + 1)) = lA Nn (cE l k) := lA_congr Nn _ _ (fun i hi => by
              have := HM.out i (by omega)
              unfold updI
              by_cases e : i = xn
              · subst e; rw [if_pos rfl]; rw [if_pos rfl] at this; rw [HMX.out]; exact this
              · rw [if_neg e]; rw [if_neg e] at this; omega)
            rw [h2] at h1
            exact hide h1
          have HV5 : Hid (SV V5 w.heap.size eb (.slice ta k tcap) k Nn bs cs (cE l)) := by
            rw [← hV5]
            exact hide (HVV0.out.keep (fun q h1 h2 => Below.heap_setCell VW ⟨cq, xn, none⟩ _ q (show q ≠ cq by have := HCQN.out; omega)))
          have B5 : Hid (Below w.heap.size w V5) := by
            rw [← hV5]
            exact hide (BVV0.out.setCell (p := ⟨cq, xn, none⟩) (show w.heap.size ≤ cq by have h1 := HCQN.out; have h2 := HWE.out; omega) _)
          rw [hV5]
          have hsz5 := B5.out.size
          clear hV5 hcx hcf e0 e1 HCRN HVV0 BVV0 hmb0 hmb1
          go_wp2_with (first
            | (at_builtin; refine wpList_append_own_at _ rfl _ _ 68 rfl w.heap.size 27 j1 (.slice none 0 0) 1 24 Try.underlying68 hj1 hz0 hz1 hz2 rfl (by decide) _ _ _ rfl (HV5.out.out.alloc _) ⟨V5.heap.size, 0, none⟩ 1 1 [.slice (some ⟨cq, 0, none⟩) Nn cc] rfl rfl (cell_sl11 _ _ rfl _ _) (by intro u hu; simp at hu; subst hu; rfl) (by unfold maxLen; omega) (by omega) (by simp; omega) ?_)
            | go_in)
          intro v6 w6 hown6 hgrow6 _ _
          have H7 : Hid (SW w6 w.heap.size w6.heap.size v6 (k + 1) Nn (cE l)) := hide (sv_push HV5.out cq cc HCQN.out HR5.out ((Below.refl _ _).alloc (Nat.le_refl _) _) hown6 hgrow6)
          have B7 : Hid (Below w.heap.size w w6) := hide ((B5.out.alloc B5.out.size _).grown hgrow6 (by simp; omega) (fun q hq => (HV5.out.out.lt q hq).1))
          clear hown6 hgrow6
          go_wp2
          go_roundw
          case rel => exact ⟨k + 1, by omega, by go_num, H7, B7⟩
          case measure => simp [intOf]; omega
        · clear hpge
          have hpb : ¬ 0 ≤ p := by omega
          have HM1 : Hid (∀ i : Nat, (0 : Int) = clkO l p (i : Int)) := hide (fun i => by unfold clkO; rw [if_neg hpb])
          obtain ⟨f, hf⟩ : ∃ f : Nat, y = (f : Int) := ⟨y.toNat, by omega⟩
          subst hf
          have hfk : f < k := by omega
          have hfI : (f : Int) < (k : Int) := by omega
          have hfI0 : (0 : Int) ≤ (f : Int) := by omega
          have e1f := E12.out
          obtain ⟨g2, hta, hcell⟩ := HV2.out.addr (by omega)
          have hcp := hcell f (by omega)
          have CM := hide (l11Most_any (some ⟨cq, 0, none⟩) (some ⟨bs f, 0, none⟩) (fun _ => 0) (cE l f) Nn cc (cs f) w2 (sl_of_lA HCR3.out) (HV2.out.sl f (by omega)) HN1.out (by omega))
          subst hta
          obtain ⟨d1, hd1⟩ : ∃ d, d = bs f := ⟨_, rfl⟩
          obtain ⟨p1, hp1⟩ : ∃ d, d = cs f := ⟨_, rfl⟩
          rw [← hd1, ← hp1] at hcp CM
          clear hcell hd1 hp1
          go_wp2_with fail
          refine CM.out.mono ?_
          rintro e VW ⟨vm, rfl, hom, hbm⟩
          obtain ⟨cqn, ccn, rfl⟩ : ∃ cq cc, vm = .slice (some ⟨cq, 0, none⟩) Nn cc := by
            rcases hom.2 with ⟨_, h0⟩ | ⟨q, cap, cur, hv, _⟩
            · have := HN1.out; omega
            · exact ⟨q, cap, hv⟩
          have HVV0 := hide (HV2.out.below hbm)
          have BVV0 := hide (B2.out.trans (hbm.mono B2.out.size))
          have e0 := (hbm.cell (p := ⟨eb, 0, none⟩) (blk_lt E02.out)).trans E02.out
          have e1 := (hbm.cell (p := ⟨eb, 1, none⟩) (blk_lt E12.out)).trans E12.out
          have HCQN : Hid (eb ≤ cqn) := hide (by have h1 := (hom.lt cqn rfl).1; have h2 := blk_lt E02.out; omega)
          obtain ⟨M, hM⟩ : ∃ M : Nat → Int, M = jn (fun _ => 0) (cE l f) := ⟨_, rfl⟩
          have HCRN : Hid (VW.ownsRow w.heap.size 3 1 (.slice (some ⟨cqn, 0, none⟩) Nn ccn) Nn (lA Nn M)) := hide (by
            have h1 := own_baseT hom B2.out.size
            rw [clL_lA] at h1
            rw [hM]; exact h1)
          have hfe : ∀ i : Nat, clkO l (f : Int) (i : Int) = cE l f i := fun i => by unfold clkO cE; rw [if_pos (by omega)]; rfl
          have hMe : ∀ i : Nat, M i = max (clkO l p (i : Int)) (clkO l (f : Int) (i : Int)) := fun i => by
            rw [hM, hfe, ← HM1.out i]; rfl
          have HMB : Hid (∀ i : Nat, i < 5 → 0 ≤ M i ∧ M i ≤ (k : Int)) := hide (fun i _ => by
            have h1 := clkO_bd l p k (by omega) (i : Int)
            have h2 := clkO_bd l (f : Int) k (by omega) (i : Int)
            rw [hMe]; omega)
          have HM : Hid (∀ i : Nat, i < 5 → (M i + if i = xn then 1 else 0) = cE l k i) := hide (fun i _ => by
            have h1 := HCL.out i
            show _ = clk l k (i : Int)
            rw [h1, hMe]
            by_cases e : i = xn
            · rw [if_pos e, if_pos (by omega)]
            · rw [if_neg e, if_neg (by omega)])
          clear hom hbm hM hfe HV2 B2 HCR3 E02 E12 CM hcp e1f
          clear hMe HM1 HCL
          have hcx := (HCRN.out.cellAt xn (by omega)).trans (lA_get Nn M xn hxN)
          have hcf := HCRN.out.frozenAt xn
          have hMb := HMB.out xn (by omega)
          obtain ⟨mx, hmx⟩ : ∃ mx, mx = M xn := ⟨_, rfl⟩
          rw [← hmx] at hcx hMb
          have hmb0 := hMb.1
          have hmb1 : mx ≤ 40 := by omega
          have HMX := hide hmx
          clear hmx hMb
          go_upto_region 12 with fail
          obtain ⟨V5, hV5⟩ : ∃ V5, VW.setCell ⟨cqn, xn, none⟩ (.int .i64 (mx + 1)) = V5 := ⟨_, rfl⟩
          have HR5 : Hid (V5.ownsRow w.heap.size 3 1 (.slice (some ⟨cqn, 0, none⟩) Nn ccn) Nn (lA Nn (cE l k))) := by
            rw [← hV5]
            have h1 := (HCRN.out.stored xn (.int .i64 (mx + 1))).1
            rw [lA_upd] at h1
            have h2 : lA Nn (updI M xn (mx + 1)) = lA Nn (cE l k) := lA_congr Nn _ _ (fun i hi => by
              have := HM.out i (by omega)
              unfold updI
              by_cases e : i = xn
              · subst e; rw [if_pos rfl]; rw [if_pos rfl] at this; rw [HMX.out]; exact this
              · rw [if_neg e]; rw [if_neg e] at this; omega)
            rw [h2] at h1
            exact hide h1
          have HV5 : Hid (SV V5 w.heap.size eb (.slice (some ⟨g2, 0, none⟩) k tcap) k Nn bs cs (cE l)) := by
            rw [← hV5]
            exact hide (HVV0.out.keep (fun q h1 h2 => Below.heap_setCell VW ⟨cqn, xn, none⟩ _ q (show q ≠ cqn by have := HCQN.out; omega)))
          have B5 : Hid (Below w.heap.size w V5) := by
            rw [← hV5]
            exact hide (BVV0.out.setCell (p := ⟨cqn, xn, none⟩) (show w.heap.size ≤ cqn by have h1 := HCQN.out; have h2 := HWE.out; omega) _)
          rw [hV5]
          have hsz5 := B5.out.size
          clear hV5 hcx hcf e0 e1 HCRN HVV0 BVV0 hmb0 hmb1
          go_wp2_with (first
            | (at_builtin; refine wpList_append_own_at _ rfl _ _ 68 rfl w.heap.size 27 j1 (.slice none 0 0) 1 24 Try.underlying68 hj1 hz0 hz1 hz2 rfl (by decide) _ _ _ rfl (HV5.out.out.alloc _) ⟨V5.heap.size, 0, none⟩ 1 1 [.slice (some ⟨cqn, 0, none⟩) Nn ccn] rfl rfl (cell_sl11 _ _ rfl _ _) (by intro u hu; simp at hu; subst hu; rfl) (by unfold maxLen; omega) (by omega) (by simp; omega) ?_)
            | go_in)
          intro v6 w6 hown6 hgrow6 _ _
          have H7 : Hid (SW w6 w.heap.size w6.heap.size v6 (k + 1) Nn (cE l)) := hide (sv_push HV5.out cqn ccn HCQN.out HR5.out ((Below.refl _ _).alloc (Nat.le_refl _) _) hown6 hgrow6)
          have B7 : Hid (Below w.heap.size w w6) := hide ((B5.out.alloc B5.out.size _).grown hgrow6 (by simp; omega) (fun q hq => (HV5.out.out.lt q hq).1))
          clear hown6 hgrow6
          go_wp2
          go_roundw
          case rel => exact ⟨k + 1, by omega, by go_num, H7, B7⟩
          case measure => simp [intOf]; omega
      · by_cases hy0' : y < 0
        · clear hyge
          obtain ⟨pn, hpn⟩ : ∃ pn : Nat, p = (pn : Int) := ⟨p.toNat, by omega⟩
          subst hpn
          have hpk : pn < k := by omega
          have hpI : (pn : Int) < (k : Int) := by omega
          have hpI0 : (0 : Int) ≤ (pn : Int) := by omega
          obtain ⟨g1, hta, hcell⟩ := HV2.out.addr (by omega)
          have hcp := hcell pn (by omega)
          have CM := hide (l11Most_any (some ⟨cq, 0, none⟩) (some ⟨bs pn, 0, none⟩) (fun _ => 0) (cE l pn) Nn cc (cs pn) w2 (sl_of_lA HCR3.out) (HV2.out.sl pn (by omega)) HN1.out (by omega))
          subst hta
          obtain ⟨d1, hd1⟩ : ∃ d, d = bs pn := ⟨_, rfl⟩
          obtain ⟨p1, hp1⟩ : ∃ d, d = cs pn := ⟨_, rfl⟩
          rw [← hd1, ← hp1] at hcp CM
          clear hcell hd1 hp1
          go_wp2_with fail
          refine CM.out.mono ?_
          rintro e w3 ⟨vm, rfl, hom, hbm⟩
          obtain ⟨cq2, cc2, rfl⟩ : ∃ cq cc, vm = .slice (some ⟨cq, 0, none⟩) Nn cc := by
            rcases hom.2 with ⟨_, h0⟩ | ⟨q, cap, cur, hv, _⟩
            · have := HN1.out; omega
            · exact ⟨q, cap, hv⟩
          have HV3 := hide (HV2.out.below hbm)
          have B3 := hide (B2.out.trans (hbm.mono B2.out.size))
          have E03 := hide ((hbm.cell (p := ⟨eb, 0, none⟩) (blk_lt E02.out)).trans E02.out)
          have E13 := hide ((hbm.cell (p := ⟨eb, 1, none⟩) (blk_lt E12.out)).trans E12.out)
          have HCQ3 : eb ≤ cq2 := by have h1 := (hom.lt cq2 rfl).1; have h2 := blk_lt E02.out; omega
          obtain ⟨M1, hM1⟩ : ∃ M1 : Nat → Int, M1 = jn (fun _ => 0) (cE l pn) := ⟨_, rfl⟩
          have HCR4 : Hid (w3.ownsRow w.heap.size 3 1 (.slice (some ⟨cq2, 0, none⟩) Nn cc2) Nn (lA Nn M1)) := hide (by
            have h1 := own_baseT hom B2.out.size
            rw [clL_lA] at h1
            rw [hM1]; exact h1)
          have HM1 : Hid (∀ i : Nat, M1 i = clkO l (pn : Int) (i : Int)) := hide (fun i => by
            rw [hM1]; unfold jn
            have h1 : clkO l (pn : Int) (i : Int) = cE l pn i := by unfold clkO cE; rw [if_pos (by omega)]; rfl
            have h2 := clkO_nn l (pn : Int) (i : Int)
            rw [h1] at h2 ⊢
            (try dsimp only)
            omega)
          clear hom hbm hM1 HV2 B2 HCR3 E02 E12 CM hcp
          have hyb : ¬ 0 ≤ y := by omega
          have e0 := E03.out
          have e1 := E13.out
          obtain ⟨VW, hVW⟩ : ∃ VW, VW = w3 := ⟨_, rfl⟩
          have HVV0 : Hid (SV VW w.heap.size eb (.slice (some ⟨g1, 0, none⟩) k tcap) k Nn bs cs (cE l)) := by rw [hVW]; exact HV3
          have BVV0 : Hid (Below w.heap.size w VW) := by rw [hVW]; exact B3
          have HCQN : Hid (eb ≤ cq2) := hide HCQ3
          obtain ⟨M, hM⟩ : ∃ M : Nat → Int, M = M1 := ⟨_, rfl⟩
          have HCRN : Hid (VW.ownsRow w.heap.size 3 1 (.slice (some ⟨cq2, 0, none⟩) Nn cc2) Nn (lA Nn M)) := by rw [hM, hVW]; exact HCR4
          have hMe : ∀ i : Nat, M i = max (clkO l (pn : Int) (i : Int)) (clkO l y (i : Int)) := fun i => by
            have h1 : clkO l y (i : Int) = 0 := by unfold clkO; rw [if_neg hyb]
            have h2 := clkO_nn l (pn : Int) (i : Int)
            rw [hM, h1, ← HM1.out i]
            rw [← HM1.out i] at h2
            (try dsimp only)
            omega
          rw [← hVW] at e0 e1 ⊢
          have HMB : Hid (∀ i : Nat, i < 5 → 0 ≤ M i ∧ M i ≤ (k : Int)) := hide (fun i _ => by
            have h1 := clkO_bd l (pn : Int) k (by omega) (i : Int)
            have h2 := clkO_bd l y k (by omega) (i : Int)
            rw [hMe]; omega)
          have HM : Hid (∀ i : Nat, i < 5 → (M i + if i = xn then 1 else 0) = cE l k i) := hide (fun i _ => by
            have h1 := HCL.out i
            show _ = clk l k (i : Int)
            rw [h1, hMe]
            by_cases e : i = xn
            · rw [if_pos e, if_pos (by omega)]
            · rw [if_neg e, if_neg (by omega)])
          clear hVW hM HV3 B3 HCR4 E03 E13
          clear hMe HM1 HCL
          have hcx := (HCRN.out.cellAt xn (by omega)).trans (lA_get Nn M xn hxN)
          have hcf := HCRN.out.frozenAt xn
          have hMb := HMB.out xn (by omega)
          obtain ⟨mx, hmx⟩ : ∃ mx, mx = M xn := ⟨_, rfl⟩
          rw [← hmx] at hcx hMb
          have hmb0 := hMb.1
          have hmb1 : mx ≤ 40 := by omega
          have HMX := hide hmx
          clear hmx hMb
          go_upto_region 12 with fail
          obtain ⟨V5, hV5⟩ : ∃ V5, VW.setCell ⟨cq2, xn, none⟩ (.int .i64 (mx + 1)) = V5 := ⟨_, rfl⟩
          have HR5 : Hid (V5.ownsRow w.heap.size 3 1 (.slice (some ⟨cq2, 0, none⟩) Nn cc2) Nn (lA Nn (cE l k))) := by
            rw [← hV5]
            have h1 := (HCRN.out.stored xn (.int .i64 (mx + 1))).1
            rw [lA_upd] at h1
            have h2 : lA Nn (updI M xn (mx + 1)) = lA Nn (cE l k) := lA_congr Nn _ _ (fun i hi => by
              have := HM.out i (by omega)
              unfold updI
              by_cases e : i = xn
              · subst e; rw [if_pos rfl]; rw [if_pos rfl] at this; rw [HMX.out]; exact this
              · rw [if_neg e]; rw [if_neg e] at this; omega)
            rw [h2] at h1
            exact hide h1
          have HV5 : Hid (SV V5 w.heap.size eb (.slice (some ⟨g1, 0, none⟩) k tcap) k Nn bs cs (cE l)) := by
            rw [← hV5]
            exact hide (HVV0.out.keep (fun q h1 h2 => Below.heap_setCell VW ⟨cq2, xn, none⟩ _ q (show q ≠ cq2 by have := HCQN.out; omega)))
          have B5 : Hid (Below w.heap.size w V5) := by
            rw [← hV5]
            exact hide (BVV0.out.setCell (p := ⟨cq2, xn, none⟩) (show w.heap.size ≤ cq2 by have h1 := HCQN.out; have h2 := HWE.out; omega) _)
          rw [hV5]
          have hsz5 := B5.out.size
          clear hV5 hcx hcf e0 e1 HCRN HVV0 BVV0 hmb0 hmb1
          go_wp2_with (first
            | (at_builtin; refine wpList_append_own_at _ rfl _ _ 68 rfl w.heap.size 27 j1 (.slice none 0 0) 1 24 Try.underlying68 hj1 hz0 hz1 hz2 rfl (by decide) _ _ _ rfl (HV5.out.out.alloc _) ⟨V5.heap.size, 0, none⟩ 1 1 [.slice (some ⟨cq2, 0, none⟩) Nn cc2] rfl rfl (cell_sl11 _ _ rfl _ _) (by intro u hu; simp at hu; subst hu; rfl) (by unfold maxLen; omega) (by omega) (by simp; omega) ?_)
            | go_in)
          intro v6 w6 hown6 hgrow6 _ _
          have H7 : Hid (SW w6 w.heap.size w6.heap.size v6 (k + 1) Nn (cE l)) := hide (sv_push HV5.out cq2 cc2 HCQN.out HR5.out ((Below.refl _ _).alloc (Nat.le_refl _) _) hown6 hgrow6)
          have B7 : Hid (Below w.heap.size w w6) := hide ((B5.out.alloc B5.out.size _).grown hgrow6 (by simp; omega) (fun q hq => (HV5.out.out.lt q hq).1))
          clear hown6 hgrow6
          go_wp2
          go_roundw
          case rel => exact ⟨k + 1, by omega, by go_num, H7, B7⟩
          case measure => simp [intOf]; omega
        · skip
          obtain ⟨pn, hpn⟩ : ∃ pn : Nat, p = (pn : Int) := ⟨p.toNat, by omega⟩
          subst hpn
          have hpk : pn < k := by omega
          have hpI : (pn : Int) < (k : Int) := by omega
          have hpI0 : (0 : Int) ≤ (pn : Int) := by omega
          obtain ⟨g1, hta, hcell⟩ := HV2.out.addr (by omega)
          have hcp := hcell pn (by omega)
          have CM := hide (l11Most_any (some ⟨cq, 0, none⟩) (some ⟨bs pn, 0, none⟩) (fun _ => 0) (cE l pn) Nn cc (cs pn) w2 (sl_of_lA HCR3.out) (HV2.out.sl pn (by omega)) HN1.out (by omega))
          subst hta
          obtain ⟨d1, hd1⟩ : ∃ d, d = bs pn := ⟨_, rfl⟩
          obtain ⟨p1, hp1⟩ : ∃ d, d = cs pn := ⟨_, rfl⟩
          rw [← hd1, ← hp1] at hcp CM
          clear hcell hd1 hp1
          go_wp2_with fail
          refine CM.out.mono ?_
          rintro e w3 ⟨vm, rfl, hom, hbm⟩
          obtain ⟨cq2, cc2, rfl⟩ : ∃ cq cc, vm = .slice (some ⟨cq, 0, none⟩) Nn cc := by
            rcases hom.2 with ⟨_, h0⟩ | ⟨q, cap, cur, hv, _⟩
            · have := HN1.out; omega
            · exact ⟨q, cap, hv⟩
          have HV3 := hide (HV2.out.below hbm)
          have B3 := hide (B2.out.trans (hbm.mono B2.out.size))
          have E03 := hide ((hbm.cell (p := ⟨eb, 0, none⟩) (blk_lt E02.out)).trans E02.out)
          have E13 := hide ((hbm.cell (p := ⟨eb, 1, none⟩) (blk_lt E12.out)).trans E12.out)
          have HCQ3 : eb ≤ cq2 := by have h1 := (hom.lt cq2 rfl).1; have h2 := blk_lt E02.out; omega
          obtain ⟨M1, hM1⟩ : ∃ M1 : Nat → Int, M1 = jn (fun _ => 0) (cE l pn) := ⟨_, rfl⟩
          have HCR4 : Hid (w3.ownsRow w.heap.size 3 1 (.slice (some ⟨cq2, 0, none⟩) Nn cc2) Nn (lA Nn M1)) := hide (by
            have h1 := own_baseT hom B2.out.size
            rw [clL_lA] at h1
            rw [hM1]; exact h1)
          have HM1 : Hid (∀ i : Nat, M1 i = clkO l (pn : Int) (i : Int)) := hide (fun i => by
            rw [hM1]; unfold jn
            have h1 : clkO l (pn : Int) (i : Int) = cE l pn i := by unfold clkO cE; rw [if_pos (by omega)]; rfl
            have h2 := clkO_nn l (pn : Int) (i : Int)
            rw [h1] at h2 ⊢
            (try dsimp only)
            omega)
          clear hom hbm hM1 HV2 B2 HCR3 E02 E12 CM hcp
          obtain ⟨f, hf⟩ : ∃ f : Nat, y = (f : Int) := ⟨y.toNat, by omega⟩
          subst hf
          have hfk : f < k := by omega
          have hfI : (f : Int) < (k : Int) := by omega
          have hfI0 : (0 : Int) ≤ (f : Int) := by omega
          have e1f := E13.out
          obtain ⟨g2, hta, hcell⟩ := HV3.out.addr (by omega)
          simp only [Option.some.injEq, Addr.mk.injEq, and_true] at hta
          have hcp := hcell f (by omega)
          have CM := hide (l11Most_any (some ⟨cq2, 0, none⟩) (some ⟨bs f, 0, none⟩) M1 (cE l f) Nn cc2 (cs f) w3 (sl_of_lA HCR4.out) (HV3.out.sl f (by omega)) HN1.out (by omega))
          subst hta
          obtain ⟨d1, hd1⟩ : ∃ d, d = bs f := ⟨_, rfl⟩
          obtain ⟨p1, hp1⟩ : ∃ d, d = cs f := ⟨_, rfl⟩
          rw [← hd1, ← hp1] at hcp CM
          clear hcell hd1 hp1
          go_wp2_with fail
          refine CM.out.mono ?_
          rintro e VW ⟨vm, rfl, hom, hbm⟩
          obtain ⟨cqn, ccn, rfl⟩ : ∃ cq cc, vm = .slice (some ⟨cq, 0, none⟩) Nn cc := by
            rcases hom.2 with ⟨_, h0⟩ | ⟨q, cap, cur, hv, _⟩
            · have := HN1.out; omega
            · exact ⟨q, cap, hv⟩
          have HVV0 := hide (HV3.out.below hbm)
          have BVV0 := hide (B3.out.trans (hbm.mono B3.out.size))
          have e0 := (hbm.cell (p := ⟨eb, 0, none⟩) (blk_lt E03.out)).trans E03.out
          have e1 := (hbm.cell (p := ⟨eb, 1, none⟩) (blk_lt E13.out)).trans E13.out
          have HCQN : Hid (eb ≤ cqn) := hide (by have h1 := (hom.lt cqn rfl).1; have h2 := blk_lt E03.out; omega)
          obtain ⟨M, hM⟩ : ∃ M : Nat → Int, M = jn M1 (cE l f) := ⟨_, rfl⟩
          have HCRN : Hid (VW.ownsRow w.heap.size 3 1 (.slice (some ⟨cqn, 0, none⟩) Nn ccn) Nn (lA Nn M)) := hide (by
            have h1 := own_baseT hom B3.out.size
            rw [clL_lA] at h1
            rw [hM]; exact h1)
          have hfe : ∀ i : Nat, clkO l (f : Int) (i : Int) = cE l f i := fun i => by unfold clkO cE; rw [if_pos (by omega)]; rfl
          have hMe : ∀ i : Nat, M i = max (clkO l (pn : Int) (i : Int)) (clkO l (f : Int) (i : Int)) := fun i => by
            rw [hM, hfe, ← HM1.out i]; rfl
          have HMB : Hid (∀ i : Nat, i < 5 → 0 ≤ M i ∧ M i ≤ (k : Int)) := hide (fun i _ => by
            have h1 := clkO_bd l (pn : Int) k (by omega) (i : Int)
            have h2 := clkO_bd l (f : Int) k (by omega) (i : Int)
            rw [hMe]; omega)
          have HM : Hid (∀ i : Nat, i < 5 → (M i + if i = xn then 1 else 0) = cE l k i) := hide (fun i _ => by
            have h1 := HCL.out i
            show _ = clk l k (i : Int)
            rw [h1, hMe]
            by_cases e : i = xn
            · rw [if_pos e, if_pos (by omega)]
            · rw [if_neg e, if_neg (by omega)])
          clear hom hbm hM hfe HV3 B3 HCR4 E03 E13 CM hcp e1f
          clear hMe HM1 HCL
          have hcx := (HCRN.out.cellAt xn (by omega)).trans (lA_get Nn M xn hxN)
          have hcf := HCRN.out.frozenAt xn
          have hMb := HMB.out xn (by omega)
          obtain ⟨mx, hmx⟩ : ∃ mx, mx = M xn := ⟨_, rfl⟩
          rw [← hmx] at hcx hMb
          have hmb0 := hMb.1
          have hmb1 : mx ≤ 40 := by omega
          have HMX := hide hmx
          clear hmx hMb
          go_upto_region 12 with fail
          obtain ⟨V5, hV5⟩ : ∃ V5, VW.setCell ⟨cqn, xn, none⟩ (.int .i64 (mx + 1)) = V5 := ⟨_, rfl⟩
          have HR5 : Hid (V5.ownsRow w.heap.size 3 1 (.slice (some ⟨cqn, 0, none⟩) Nn ccn) Nn (lA Nn (cE l k))) := by
            rw [← hV5]
            have h1 := (HCRN.out.stored xn (.int .i64 (mx + 1))).1
            rw [lA_upd] at h1
            have h2 : lA Nn (updI M xn (mx + 1)) = lA Nn (cE l k) := lA_congr Nn _ _ (fun i hi => by
              have := HM.out i (by omega)
              unfold updI
              by_cases e : i = xn
              · subst e; rw [if_pos rfl]; rw [if_pos rfl] at this; rw [HMX.out]; exact this
              · rw [if_neg e]; rw [if_neg e] at this; omega)
            rw [h2] at h1
            exact hide h1
          have HV5 : Hid (SV V5 w.heap.size eb (.slice (some ⟨g1, 0, none⟩) k tcap) k Nn bs cs (cE l)) := by
            rw [← hV5]
            exact hide (HVV0.out.keep (fun q h1 h2 => Below.heap_setCell VW ⟨cqn, xn, none⟩ _ q (show q ≠ cqn by have := HCQN.out; omega)))
          have B5 : Hid (Below w.heap.size w V5) := by
            rw [← hV5]
            exact hide (BVV0.out.setCell (p := ⟨cqn, xn, none⟩) (show w.heap.size ≤ cqn by have h1 := HCQN.out; have h2 := HWE.out; omega) _)
          rw [hV5]
          have hsz5 := B5.out.size
          clear hV5 hcx hcf e0 e1 HCRN HVV0 BVV0 hmb0 hmb1
          go_wp2_with (first
            | (at_builtin; refine wpList_append_own_at _ rfl _ _ 68 rfl w.heap.size 27 j1 (.slice none 0 0) 1 24 Try.underlying68 hj1 hz0 hz1 hz2 rfl (by decide) _ _ _ rfl (HV5.out.out.alloc _) ⟨V5.heap.size, 0, none⟩ 1 1 [.slice (some ⟨cqn, 0, none⟩) Nn ccn] rfl rfl (cell_sl11 _ _ rfl _ _) (by intro u hu; simp at hu; subst hu; rfl) (by unfold maxLen; omega) (by omega) (by simp; omega) ?_)
            | go_in)
          intro v6 w6 hown6 hgrow6 _ _
          have H7 : Hid (SW w6 w.heap.size w6.heap.size v6 (k + 1) Nn (cE l)) := hide (sv_push HV5.out cqn ccn HCQN.out HR5.out ((Below.refl _ _).alloc (Nat.le_refl _) _) hown6 hgrow6)
          have B7 : Hid (Below w.heap.size w w6) := hide ((B5.out.alloc B5.out.size _).grown hgrow6 (by simp; omega) (fun q hq => (HV5.out.out.lt q hq).1))
          clear hown6 hgrow6
          go_wp2
          go_roundw
          case rel => exact ⟨k + 1, by omega, by go_num, H7, B7⟩
          case measure => simp [intOf]; omega
    · have hltI : ¬ (k : Int) < (n : Int) := by omega
      obtain rfl : k = n := by omega
      have H9 := hide (show SW wr w.heap.size wr.heap.size _ k Nn (cE l) from ⟨bs, cs, hV⟩)
      clear hV HW
      go_wp2
      go_ret
      exact ⟨_, rfl, H9.out, HB.out⟩
set_option maxRecDepth 100000 in
set_option maxHeartbeats 4000000 in
theorem specClocks_any (N : Int) (a : Option Addr) (l : List (Int × Int)) (n cap : Nat) (w : World) (hn : l.length = n) (hs : Sl2 w a l) (hn2 : n ≤ 1048576) (hN : N ≤ 9223372036854775807) (b : Bool) (hb : b = true ↔ GoodV N l) (m : Nat) (hm : m = if b then n else 0) :
    Calls Try.prog 34 #[.int .i64 N, .slice a n cap] w fun e w' => RetS w b m N.toNat (cE l) e w' := by
  cases b with
  | false =>
    have CG := hide (fun w hs => specGoodEvents_any N a l n cap w hn hs hn2 hN false (by simpa using hb))
    have hm0 : m = 0 := hm
    subst hm0
    have HS := hide hs
    clear hb hm hs hn
    go_enter Try.func34, Try.ntmps34
    go_wp2_with fail
    refine (CG.out _ HS.out).mono ?_
    rintro e w1 ⟨rfl, hb1⟩
    have B1 := hide hb1
    clear hb1
    go_wp2
    go_ret2
    exact ⟨_, rfl, SW.nil _ _ _ _ _, B1.out⟩
  | true =>
    have hg := hb.1 rfl
    have CG := hide (fun w hs => specGoodEvents_any N a l n cap w hn hs hn2 hN true (by simp [hg]))
    have hmn : m = n := hm
    subst hmn
    obtain ⟨Nn, hNn⟩ : ∃ Nn : Nat, N = (Nn : Int) := ⟨N.toNat, by have := hg.1; omega⟩
    subst hNn
    have hNt : (Nn : Int).toNat = Nn := rfl
    rw [hNt]
    have CC := hide (fun w hs => l11Clocks_any Nn a l m cap w hn hs hg)
    have HS := hide hs
    clear hb hm hs hg hNt hn
    go_enter Try.func34, Try.ntmps34
    go_wp2_with fail
    refine (CG.out _ HS.out).mono ?_
    rintro e w1 ⟨rfl, hb1⟩
    have B1 := hide hb1
    clear hb1
    go_wp2_with fail
    refine (CC.out _ (HS.out.below B1.out)).mono ?_
    rintro e w2 ⟨v, rfl, ho, hb2⟩
    have B2 := hide (B1.out.trans (hb2.mono B1.out.size))
    obtain ⟨bs, cs, hv⟩ := ho
    have H9 : Hid (SW w2 w.heap.size w2.heap.size v m Nn (cE l)) := hide ⟨bs, cs, own_baseT hv.out B1.out.size, hv.top, fun i hi => own_baseT (hv.row i hi) B1.out.size, hv.rtop, hv.inj⟩
    clear hv hb2
    go_wp2
    go_ret2
    exact ⟨_, rfl, H9.out, B2.out⟩
end Go.Proofs.Ytkfnejiiancmhad.L11
