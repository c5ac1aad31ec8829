/-
  Contract of the specification's spoilt: some text, not much longer.
  Contracts: laws.sameForm says that two lists alike are alike; spec.DrawReadForm: some text that is not long; spec.DrawNotForm.
  Contracts: strings.HasPrefix, (*impl.formReader).take: a byte is taken where it stands.
  Contracts: (*impl.formReader).readTwo: a form is read off a text as the parser reads it.
  Contracts: (*impl.formReader).readLetter, readFirst, read: a form is read off a text as the parser reads it.
  Contracts: (*impl.formReader).readFirst, read: a form is read off a text as the parser reads it.
  Contracts: impl.partsOf, impl.partsOfTwo: the parts of a shape behind others.
  Contract: impl.ReadForm.
-/
import Derived.Test.YtapffbbmofhpoabBundle1
import Derived.Test.YtapffbbmofhpoabBundle4
import Derived.Deep.QuietTactic
import Derived.BigQuiet
import Derived.Test.YtapffbbmofhpoabBundle2
import Derived.Test.YtapffbbmofhpoabBundle3
import Derived.Deep.RegionHeld3
import Derived.OwnWalk
namespace Go.Proofs.Ytapffbbmofhpoab.L1
open Go.RowKit
set_option linter.unusedVariables false

theorem grown_then_below {a b c : World} {r : Option Nat} (h : a.grownBy b r) (k : Below a.heap.size b c) : a.grownBy c r :=
  ⟨k.os.trans h.os, k.tape.trans h.tape, k.output.trans h.output, Nat.le_trans h.size k.size, fun i hi hn => (k.block i hi).trans (h.block i hi hn)⟩
theorem Cur.keptBelow {w w' : World} {b N B : Nat} (h : Cur w b N) (hb : Below B w w') (hB : b < B) : Cur w' b N := h.kept fun k hk => hb.block k (by omega)
theorem one_conv (w : World) (x : Int) :
    (convert 22 9 (.slice (some ⟨w.heap.size, 0, none⟩) 1 1)).run Try.prog (w.alloc (.cells #[.int .u8 x] 5)) = .ok (.string (strOfNums [x])) (w.alloc (.cells #[.int .u8 x] 5)) :=
  run_convert_bytes_arg _ 22 5 Try.underlying22 Try.underlying5 w.heap.size 0 1 1 [x] rfl (fun i hi => by
    obtain rfl : i = 0 := by omega
    simp) 9 Try.underlying9

set_option maxRecDepth 100000 in
set_option maxHeartbeats 1000000 in
theorem spoilt_any (b N : Nat) (t wi : ByteArray) (w : World) (h : Cur w b N) (hN : N ≤ 10000000) (ht : t.size ≤ 100000) (hw1 : 1 ≤ wi.size) (hw2 : wi.size ≤ 100) :
    Calls Try.prog 105 #[.pointer (some ⟨b, 0, none⟩), .string t, .string wi] w fun e w' => ∃ (u : ByteArray), e = .returned (.string u) ∧ u.size ≤ t.size + 2 ∧ Cur w' b (N + 14) ∧ w.grownBy w' (some b) := by
  have HC := hide h
  clear h
  go_enter Try.func105, Try.ntmps105
  go_wp2_with fail
  refine (pick_any b N _ _ HC.out (by omega) (by omega) (by omega)).mono ?_
  rintro e w1 ⟨x, rfl, hx0, hx1, hx2, hc1, hg1⟩
  have hx3 : x < 3 := hx2 (by omega)
  obtain ⟨k0, rfl⟩ : ∃ k : Nat, x = (k : Int) := ⟨x.toNat, by omega⟩
  have hk0 : k0 ≤ 2 := by omega
  have H1 := hide hc1
  have G1 := hide hg1
  clear hc1 hg1 hx2
  go_wp2
  go_loopw [1, 7] (fun o i wr => ∃ (k : Nat) (u : ByteArray), k ≤ 2 ∧ u.size + k ≤ t.size + 2 ∧ i = .int .i64 (k : Int) ∧ o = .string u ∧ Hid (Cur wr b (N + 14 - 6 * k)) ∧ Hid (w.grownBy wr (some b))) (fun _ i _ => (intOf i).toNat)
  case atStart => exact ⟨k0, t, hk0, by omega, rfl, rfl, H1.out.mono (by omega), G1.out⟩
  case round =>
    obtain ⟨k, u, hk, hu, rfl, rfl, HCr, HGr⟩ := hrel
    by_cases hlt : 0 < k
    · have hltI : (0 : Int) < (k : Int) := by omega
      by_cases hu0 : 0 < u.size
      · have huI : (0 : Int) < (u.size : Int) := by omega
        go_wp2_with fail
        refine (pick_any b (N + 14 - 6 * k) _ _ HCr.out (by omega) (by omega) (by omega)).mono ?_
        rintro e w2 ⟨i, rfl, hi0, hi1, hi2, hc2, hg2⟩
        have hi3 : i < (u.size : Int) := hi2 (by omega)
        obtain ⟨j, rfl⟩ : ∃ j : Nat, i = (j : Int) := ⟨i.toNat, by omega⟩
        have hj : j < u.size := by omega
        have H2 := hide hc2
        have G2 := hide (grown_trans HGr.out hg2)
        clear hc2 hg2 hi2 HCr HGr
        go_wp2_with fail
        refine (pick_any b (N + 14 - 6 * k + 2) _ _ H2.out (by omega) (by omega) (by omega)).mono ?_
        rintro e w3 ⟨i2, rfl, hp0, hp1, hp2, hc3, hg3⟩
        have hp3 : i2 < (wi.size : Int) := hp2 (by omega)
        obtain ⟨q, rfl⟩ : ∃ q : Nat, i2 = (q : Int) := ⟨i2.toNat, by omega⟩
        have hq : q < wi.size := by omega
        have H3 := hide hc3
        have G3 := hide (grown_trans G2.out hg3)
        have hcv := one_conv w3 ((wi[q]'hq).toNat : Int)
        have hWs : (strOfNums [((wi[q]'hq).toNat : Int)]).size = 1 := by rw [strOfNums_size]; rfl
        obtain ⟨Wd, hWd⟩ : ∃ Wd, Wd = strOfNums [((wi[q]'hq).toNat : Int)] := ⟨_, rfl⟩
        rw [← hWd] at hcv hWs
        have hWs2 : Wd.size ≤ 1 := by omega
        have hus : u.size ≤ 100002 := by omega
        have C3 := hide (H3.out.alloc (Obj.cells #[Value.int .u8 ((wi[q]'hq).toNat : Int)] 5))
        have D3 := hide (grown_trans G3.out (grown_alloc w3 (Obj.cells #[Value.int .u8 ((wi[q]'hq).toNat : Int)] 5) b))
        clear hc3 hg3 hp2 H2 G2 H3 G3 hWd hWs
        go_wp2_with fail
        refine (pick_any b (N + 14 - 6 * k + 4) _ _ C3.out (by omega) (by omega) (by omega)).mono ?_
        rintro e w4 ⟨z, rfl, hz0, hz1, hz2, hc4, hg4⟩
        have hz3 : z < 3 := hz2 (by omega)
        have H4 := hide hc4
        have G4 := hide (grown_trans D3.out hg4)
        have hj0I : (0 : Int) ≤ (j : Int) := by omega
        have hj1I : (j : Int) ≤ (u.size : Int) := by omega
        have hj2I : (j : Int) + 1 ≤ (u.size : Int) := by omega
        have hs1 := @ByteArray.size_extract u 0 j
        have hs2 := @ByteArray.size_extract u j u.size
        have hs3 := @ByteArray.size_extract u (j + 1) u.size
        have hb1 : (u.extract 0 j).size ≤ 100002 := by omega
        have hb2 : (u.extract j u.size).size ≤ 100002 := by omega
        have hb3 : (u.extract (j + 1) u.size).size ≤ 100002 := by omega
        have hz : z = 0 ∨ z = 1 ∨ z = 2 := by omega
        have HS := hide (And.intro hs1 (And.intro hs2 hs3))
        clear hc4 hg4 hz2 C3 D3 hs1 hs2 hs3 hcv
        rcases hz with rfl | rfl | rfl
        · go_wp2
          go_quiet (fail)
          go_wp2
          go_roundw
          case rel =>
            refine ⟨k - 1, _, by omega, ?_, by go_num, rfl, (H4.out.kept (fun _ _ => rfl)).mono (by omega), grown_trans G4.out ⟨rfl, rfl, rfl, Nat.le_refl _, fun _ _ _ => rfl⟩⟩
            have := HS.out
            simp only [ByteArray.size_append]
            omega
          case measure => simp [intOf]; omega
        · go_wp2
          go_quiet (fail)
          go_wp2
          go_roundw
          case rel =>
            refine ⟨k - 1, _, by omega, ?_, by go_num, rfl, (H4.out.kept (fun _ _ => rfl)).mono (by omega), grown_trans G4.out ⟨rfl, rfl, rfl, Nat.le_refl _, fun _ _ _ => rfl⟩⟩
            have := HS.out
            simp only [ByteArray.size_append]
            omega
          case measure => simp [intOf]; omega
        · go_wp2
          go_quiet (fail)
          go_wp2
          go_roundw
          case rel =>
            refine ⟨k - 1, _, by omega, ?_, by go_num, rfl, (H4.out.kept (fun _ _ => rfl)).mono (by omega), grown_trans G4.out ⟨rfl, rfl, rfl, Nat.le_refl _, fun _ _ _ => rfl⟩⟩
            have := HS.out
            simp only [ByteArray.size_append]
            omega
          case measure => simp [intOf]; omega
      · have huI : ¬ (0 : Int) < (u.size : Int) := by omega
        go_wp2
        go_ret
        exact ⟨_, rfl, by omega, HCr.out.mono (by omega), HGr.out⟩
    · have hltI : ¬ (0 : Int) < (k : Int) := by omega
      go_wp2
      go_ret
      exact ⟨_, rfl, by omega, HCr.out.mono (by omega), HGr.out⟩
end Go.Proofs.Ytapffbbmofhpoab.L1

namespace Go.Proofs.Ytapffbbmofhpoab.L5
open Go.RowKit L1 L4
set_option linter.unusedVariables false

theorem below_drewT {N : Nat} {w w' : World} (h : Below N w w') : ∀ q, Below N w (w'.drewN q)
  | 0 => h
  | q + 1 => (below_drewT h q).drew
set_option maxRecDepth 100000 in
set_option maxHeartbeats 1000000 in
theorem sameForm_same (a b : Option Addr) (xs : List Pr) (n c1 c2 : Nat) (w : World) (hn : xs.length = n) (ha : SlP w a xs) (hb : SlP w b xs) (hn2 : n ≤ 1048576) :
    Calls Try.prog 45 #[.slice a n c1, .slice b n c2] w fun e w' => e = .returned (.bool true) ∧ Below w.heap.size w w' := by
  have HA := hide ha
  have HB := hide hb
  have HN := hide hn
  clear ha hb hn
  go_enter Try.func45, Try.ntmps45
  go_wp2
  go_loopw [13] (fun i wr => ∃ k : Nat, k ≤ n ∧ i = .int .i64 k ∧ Below w.heap.size w wr) (fun i _ => n - (intOf i).toNat)
  case atStart => exact ⟨0, Nat.zero_le _, rfl, Below.refl _ _⟩
  case round =>
    obtain ⟨k, hk, rfl, hbel⟩ := hrel
    by_cases hlt : k < n
    · obtain ⟨b1, o1, rfl, h1⟩ := HA.out k (by rw [HN.out]; exact hlt)
      obtain ⟨b2, o2, rfl, h2⟩ := HB.out k (by rw [HN.out]; exact hlt)
      have g0 := (hbel.cell (p := ⟨b1, o1 + k * 4, none⟩) (blk_lt h1.k)).trans h1.k
      have g1 := (hbel.cell (p := ⟨b1, o1 + k * 4 + 1, none⟩) (blk_lt h1.k)).trans h1.t
      have g2 := (hbel.cell (p := ⟨b1, o1 + k * 4 + 2, none⟩) (blk_lt h1.k)).trans h1.a
      have g3 := (hbel.cell (p := ⟨b1, o1 + k * 4 + 3, none⟩) (blk_lt h1.k)).trans h1.b
      have g4 := (hbel.cell (p := ⟨b2, o2 + k * 4, none⟩) (blk_lt h2.k)).trans h2.k
      have g5 := (hbel.cell (p := ⟨b2, o2 + k * 4 + 1, none⟩) (blk_lt h2.k)).trans h2.t
      have g6 := (hbel.cell (p := ⟨b2, o2 + k * 4 + 2, none⟩) (blk_lt h2.k)).trans h2.a
      have g7 := (hbel.cell (p := ⟨b2, o2 + k * 4 + 3, none⟩) (blk_lt h2.k)).trans h2.b
      obtain ⟨p, hp⟩ : ∃ p, p = xs.getD k eP := ⟨_, rfl⟩
      rw [← hp] at g0 g1 g2 g3 g4 g5 g6 g7
      obtain ⟨pk, pt, pa, pb⟩ := p
      simp only at g0 g1 g2 g3 g4 g5 g6 g7
      have hltI : (k : Int) < (n : Int) := by omega
      have hk0 : (0 : Int) ≤ (k : Int) := by omega
      clear h1 h2 hp
      go_wp2
      go_quiet (fail)
      go_wp2
      go_roundw
      case rel => exact ⟨k + 1, by omega, by go_num, below_drewT hbel _⟩
      case measure => simp [intOf]; omega
    · have hltI : ¬ (k : Int) < (n : Int) := by omega
      go_wp2
      go_ret
      exact ⟨rfl, hbel⟩

set_option maxRecDepth 100000 in
set_option maxHeartbeats 1000000 in
theorem drawNotForm_any (a : Option Addr) (n cap : Nat) (w : World) (h : Slb w w.heap.size a n) (hn : n ≤ 1048576) :
    Calls Try.prog 53 #[.slice a n cap] w fun e w' => ∃ v, e = .returned v ∧ DrG w v w' := by
  have HC := hide (drawGoodForm_any a n cap w h hn)
  clear h
  go_enter Try.func53, Try.ntmps53
  go_wp2_with fail
  refine HC.out.mono ?_
  rintro e w1 ⟨v, rfl, hd⟩
  have R := hide hd
  obtain ⟨l, hl, ht, ho, hb⟩ := hd
  obtain ⟨fa, fc, rfl⟩ := (show ∃ fa fc, v = .slice fa l.length fc by obtain ⟨y, z, e, _⟩ := own_formP ho; exact ⟨y, z, e⟩)
  clear hl ht ho hb
  go_wp2
  go_ret
  exact ⟨_, rfl, R.out⟩

/-- spec.FormText of few parts: a text that is not long. -/
theorem specFormText_few (a : Option Addr) (l : List Pr) (n cap : Nat) (w : World) (hn : l.length = n) (hs : SlP w a l) (hn2 : n ≤ 24) (hst : TxP l) :
    Calls Try.prog 49 #[.slice a n cap] w fun e w' => ∃ (t : ByteArray) (ok : Bool), e = .returned (.tuple #[.string t, .bool ok]) ∧ t.size ≤ 72 ∧ Below w.heap.size w w' := by
  by_cases hg : GoodF l
  · refine (specFormText_any a l n cap w hn hs (by omega) hst true _ (by simp [hg]) rfl).mono ?_
    rintro e w' ⟨rfl, hb⟩
    refine ⟨_, _, rfl, ?_, hb⟩
    rw [if_pos rfl]
    have h1 := tx_size (whole l)
    have h2 := whole_size hg
    omega
  · refine (specFormText_any a l n cap w hn hs (by omega) hst false _ (by simp [hg]) rfl).mono ?_
    rintro e w' ⟨rfl, hb⟩
    exact ⟨_, _, rfl, by show 0 ≤ 72; omega, hb⟩

set_option maxRecDepth 100000 in
set_option maxHeartbeats 1000000 in
theorem drawReadForm_any (a : Option Addr) (n cap : Nat) (w : World) (h : Slb w w.heap.size a n) (hn : n ≤ 1048576) :
    Calls Try.prog 51 #[.slice a n cap] w fun e w' => ∃ u : ByteArray, e = .returned (.string u) ∧ u.size ≤ 1000 ∧ Below w.heap.size w w' := by
  have HC := hide (cur_newF (cap := cap) h hn)
  clear h
  go_enter Try.func51, Try.ntmps51
  go_wp2_with fail
  refine (drForm_any _ _ _ HC.out (by omega)).mono ?_
  rintro e w1 ⟨v, rfl, l, hl, ht, ho, hc, hg⟩
  obtain ⟨m, hm⟩ : ∃ m, m = l.length := ⟨_, rfl⟩
  obtain ⟨fa, fc, rfl, hsl, _⟩ := own_formP ho
  rw [← hm] at hl ⊢
  have CE := hide (specFormText_few fa l m fc w1 hm.symm hsl (by omega) ht)
  have C1 := hide hc
  have G1 := hide hg
  clear hc hg ho hsl ht hm HC
  go_wp2_with fail
  refine CE.out.mono ?_
  rintro e w2 ⟨t, ok, rfl, htz, hb2⟩
  have C2 := hide (C1.out.below hb2)
  have G2 := hide (L1.grown_trans G1.out (L1.below_grown hb2))
  clear hb2 C1 G1 CE
  go_wp2_with fail
  refine (one_any _ _ 3 _ C2.out (by omega) (by omega) (by omega)).mono ?_
  rintro e w3 ⟨q, rfl, hc3, hg3⟩
  have C3 := hide hc3
  have G3 := hide (L1.grown_trans G2.out hg3)
  clear hc3 hg3 C2 G2
  cases q with
  | false =>
    go_wp2
    go_ret
    exact ⟨t, rfl, by omega, grown_to_belowF G3.out⟩
  | true =>
    go_wp2_with fail
    refine (spoilt_any _ _ t _ _ C3.out (by omega) (by omega) (by decide) (by decide)).mono ?_
    rintro e w4 ⟨u, rfl, hu, hc4, hg4⟩
    have G4 := hide (L1.grown_trans G3.out hg4)
    clear hc4 hg4 C3 G3
    go_wp2
    go_ret
    exact ⟨u, rfl, by omega, grown_to_belowF G4.out⟩
end Go.Proofs.Ytapffbbmofhpoab.L5

namespace Go.Proofs.Ytapffbbmofhpoab.L5
open Go.RowKit L1 L4
set_option linter.unusedVariables false

/-- A reader's block. -/
def RB (w : World) (g : Nat) (s : ByteArray) (k : Nat) (o : Int) : Prop := w.heap[g]? = some (.cells #[.string s, .int .i64 (k : Int), .int .i64 o] 129 (0, 0))
theorem RB.lt {w : World} {g k : Nat} {s : ByteArray} {o : Int} (h : RB w g s k o) : g < w.heap.size := (Array.getElem?_eq_some_iff.1 h).1
theorem RB.s {w : World} {g k : Nat} {s : ByteArray} {o : Int} (h : RB w g s k o) : w.cell? ⟨g, 0, none⟩ = some (.string s) := Lib.cell_of_heap h 0
theorem RB.k {w : World} {g k : Nat} {s : ByteArray} {o : Int} (h : RB w g s k o) : w.cell? ⟨g, 1, none⟩ = some (.int .i64 (k : Int)) := Lib.cell_of_heap h 1
theorem RB.o {w : World} {g k : Nat} {s : ByteArray} {o : Int} (h : RB w g s k o) : w.cell? ⟨g, 2, none⟩ = some (.int .i64 o) := Lib.cell_of_heap h 2
theorem RB.frozen {w : World} {g k : Nat} {s : ByteArray} {o : Int} (h : RB w g s k o) (j : Nat) : w.frozen? ⟨g, j, none⟩ = false := Lib.frozen_of_heap h j
theorem RB.below {w w' : World} {g k : Nat} {s : ByteArray} {o : Int} (h : RB w g s k o) (hb : Below w.heap.size w w') : RB w' g s k o := (hb.block g h.lt).trans h
theorem RB.setK {w : World} {g k : Nat} {s : ByteArray} {o : Int} (h : RB w g s k o) (y : Nat) : RB (w.setCell ⟨g, 1, none⟩ (.int .i64 (y : Int))) g s y o := by
  have h1 := heap_setCell_same w g 1 _ _ (.int .i64 (y : Int)) h
  unfold RB
  rw [h1]
  rfl
theorem RB.setO {w : World} {g k : Nat} {s : ByteArray} {o : Int} (h : RB w g s k o) (y : Int) : RB (w.setCell ⟨g, 2, none⟩ (.int .i64 y)) g s k y := by
  have h1 := heap_setCell_same w g 2 _ _ (.int .i64 y) h
  unfold RB
  rw [h1]
  rfl
theorem RB.new (w : World) (s : ByteArray) (k : Nat) (o : Int) : RB (w.alloc (.cells #[.string s, .int .i64 (k : Int), .int .i64 o] 129)) w.heap.size s k o := by
  unfold RB
  show (w.heap.push _)[w.heap.size]? = _
  exact Array.getElem?_push_size
/-- The reader stands elsewhere; nothing else has turned. -/
structure Mv (w w' : World) (g : Nat) (s : ByteArray) (k : Nat) (o : Int) : Prop where
  rb : RB w' g s k o
  gr : w.grownBy w' (some g)
theorem Mv.trans {w w' w'' : World} {g k k' : Nat} {s : ByteArray} {o o' : Int} (h : Mv w w' g s k o) (h2 : Mv w' w'' g s k' o') : Mv w w'' g s k' o' := ⟨h2.rb, h.gr.trans h2.gr⟩
theorem Mv.refl {w : World} {g k : Nat} {s : ByteArray} {o : Int} (h : RB w g s k o) : Mv w w g s k o := ⟨h, World.grownBy.refl _ _⟩
theorem Mv.below {w w' w'' : World} {g k : Nat} {s : ByteArray} {o : Int} (h : Mv w w' g s k o) (hb : Below w'.heap.size w' w'') : Mv w w'' g s k o := ⟨h.rb.below hb, h.gr.trans (grown_below0 hb _)⟩
theorem Mv.setK {w w' : World} {g k : Nat} {s : ByteArray} {o : Int} (h : Mv w w' g s k o) (y : Nat) : Mv w (w'.setCell ⟨g, 1, none⟩ (.int .i64 (y : Int))) g s y o := ⟨h.rb.setK y, h.gr.trans (grown_set _ _ _ _)⟩
theorem Mv.setO {w w' : World} {g k : Nat} {s : ByteArray} {o : Int} (h : Mv w w' g s k o) (y : Int) : Mv w (w'.setCell ⟨g, 2, none⟩ (.int .i64 y)) g s k y := ⟨h.rb.setO y, h.gr.trans (grown_set _ _ _ _)⟩
theorem slice_toR (w : World) (s : ByteArray) (k : Nat) (h : k ≤ s.size) : (Instr.slice 9 (.string s) none (some (.int .i64 (k : Int))) none).run Try.prog w = .ok (.string (s.extract 0 k)) w := by
  simp [go_sem, h]
theorem slice_fromR (w : World) (s : ByteArray) (k : Nat) (h : k ≤ s.size) : (Instr.slice 9 (.string s) (some (.int .i64 (k : Int))) none none).run Try.prog w = .ok (.string (s.extract k s.size)) w := by
  simp [go_sem, h]
set_option maxRecDepth 100000 in
set_option maxHeartbeats 1000000 in
theorem liteHas_any (t p : ByteArray) (w : World) (ht : t.size ≤ 1000) (hp : p.size ≤ 1000) (bb : Bool) (hbb : bb = (decide (p.size ≤ t.size) && ((t.extract 0 p.size).toList == p.toList))) :
    Calls Try.prog 156 #[.string t, .string p] w fun e w' => e = .returned (.bool bb) ∧ w = w' := by
  by_cases hle : p.size ≤ t.size
  · have q := fun w => slice_toR w t p.size hle
    rw [decide_eq_true hle, Bool.true_and] at hbb
    have hleI : (p.size : Int) ≤ (t.size : Int) := by omega
    have HB := hide hbb
    obtain ⟨x, hx⟩ : ∃ x, x = t.extract 0 p.size := ⟨_, rfl⟩
    simp only [← hx] at q hbb
    have hbb2 := hbb.symm
    clear hbb hx
    go_enter Try.func156, Try.ntmps156
    go_wp2
    go_ret
    exact ⟨rfl, rfl⟩
  · rw [decide_eq_false hle, Bool.false_and] at hbb
    subst hbb
    have hleI : ¬ (p.size : Int) ≤ (t.size : Int) := by omega
    go_enter Try.func156, Try.ntmps156
    go_wp2
    go_ret
    exact ⟨rfl, rfl⟩
set_option maxRecDepth 100000 in
set_option maxHeartbeats 1000000 in
theorem hasP_any (t p : ByteArray) (w : World) (ht : t.size ≤ 1000) (hp : p.size ≤ 1000) (bb : Bool) (hbb : bb = (decide (p.size ≤ t.size) && ((t.extract 0 p.size).toList == p.toList))) :
    Calls Try.prog 154 #[.string t, .string p] w fun e w' => e = .returned (.bool bb) ∧ w = w' := by
  have C := hide (fun w => liteHas_any t p w ht hp bb hbb)
  clear hbb ht hp
  go_enter Try.func154, Try.ntmps154
  go_wp2_with fail
  refine (C.out _).mono ?_
  rintro e w1 ⟨rfl, rfl⟩
  go_wp2
  go_ret
  exact ⟨rfl, rfl⟩
theorem cut_one (s : ByteArray) (k : Nat) (h : k < s.size) : (s.extract k s.size).extract 0 1 = ⟨#[s[k]]⟩ := by
  apply ByteArray.ext
  apply Array.ext
  · show ((s.extract k s.size).extract 0 1).size = 1
    rw [ByteArray.size_extract, ByteArray.size_extract]
    omega
  · intro i h1 h2
    have : i = 0 := by simp at h2; omega
    subst this
    simp [ByteArray.getElem_eq_getElem_data]
theorem has_one (s : ByteArray) (k : Nat) (c : UInt8) (hk : k ≤ s.size) (hc : (c.toNat : Int) ≠ 0) : (decide ((⟨#[c]⟩ : ByteArray).size ≤ (s.extract k s.size).size) && (((s.extract k s.size).extract 0 (⟨#[c]⟩ : ByteArray).size).toList == (⟨#[c]⟩ : ByteArray).toList)) = decide (byt s k = (c.toNat : Int)) := by
  have e1 : (⟨#[c]⟩ : ByteArray).size = 1 := rfl
  rw [e1, ByteArray.size_extract]
  by_cases h : k < s.size
  · rw [decide_eq_true (by omega), Bool.true_and, cut_one s k h]
    have hb : byt s k = ((s[k]'h).toNat : Int) := bts_at s k h
    rw [hb]
    by_cases e : s[k] = c
    · rw [e]; simp
    · have : (⟨#[s[k]]⟩ : ByteArray).toList ≠ (⟨#[c]⟩ : ByteArray).toList := fun x => by
        have := toList_inj x
        simp at this
        exact e this
      rw [beq_eq_false_iff_ne.2 this, decide_eq_false]
      intro x
      exact e (UInt8.toNat_inj.1 (by omega))
  · rw [decide_eq_false (by omega), Bool.false_and, byt_end (by omega), decide_eq_false (fun x => hc x.symm)]
theorem has_none (t : ByteArray) : (decide ((⟨#[]⟩ : ByteArray).size ≤ t.size) && ((t.extract 0 (⟨#[]⟩ : ByteArray).size).toList == (⟨#[]⟩ : ByteArray).toList)) = true := by
  have e1 : (⟨#[]⟩ : ByteArray).size = 0 := rfl
  have e2 : t.extract 0 0 = ⟨#[]⟩ := by apply ByteArray.ext; simp
  rw [e1, decide_eq_true (by omega), Bool.true_and, e2]
  simp
theorem keepR {wa wb W : World} {g N : Nat} {u v : Value} (h : (wa.cell? ⟨g, 0, none⟩ = some u ∧ wa.cell? ⟨g, 1, none⟩ = some v) ∧ Below N W wa) (hb : Below wa.heap.size wa wb) (hN : N ≤ W.heap.size) : (wb.cell? ⟨g, 0, none⟩ = some u ∧ wb.cell? ⟨g, 1, none⟩ = some v) ∧ Below N W wb :=
  ⟨⟨(hb.cell (p := ⟨g, 0, none⟩) (blk_lt h.1.1)).trans h.1.1, (hb.cell (p := ⟨g, 1, none⟩) (blk_lt h.1.2)).trans h.1.2⟩, h.2.trans (hb.mono (Nat.le_trans hN h.2.size))⟩
set_option maxRecDepth 100000 in
set_option maxHeartbeats 4000000 in
theorem take_any (p s : ByteArray) (k g : Nat) (o : Int) (w : World) (h : RB w g s k o) (hk : k ≤ s.size) (hs : s.size ≤ 120) (hp : p.size ≤ 1) (bb : Bool) (hbb : bb = (decide (p.size ≤ (s.extract k s.size).size) && (((s.extract k s.size).extract 0 p.size).toList == p.toList))) :
    Calls Try.prog 138 #[.pointer (some ⟨g, 0, none⟩), .string p] w fun e w' => e = .returned (.bool bb) ∧ Mv w w' g s (if bb = true then k + p.size else k) o := by
  have C := hide (fun w => hasP_any (s.extract k s.size) p w (by rw [ByteArray.size_extract]; omega) (by omega) bb hbb)
  have q := fun w => slice_fromR w s k hk
  obtain ⟨t, ht⟩ : ∃ t, t = s.extract k s.size := ⟨_, rfl⟩
  simp only [← ht] at C q
  have H := hide (Mv.refl h)
  have c0 := h.s
  have c1 := h.k
  clear hbb ht h
  go_enter Try.func138, Try.ntmps138
  go_wp2
  go_region_held3 (fun wx => (wx.cell? ⟨g, 0, none⟩ = some (.string s) ∧ wx.cell? ⟨g, 1, none⟩ = some (.int .i64 (k : Int))) ∧ Below w.heap.size w wx) (first | exact ⟨⟨c0, c1⟩, (Below.refl _ _).drew⟩ | exact keepR (by assumption) (by assumption) (Nat.le_refl _)) ((go_at_call 154; refine (C.out _).mono ?_; rintro e w1 ⟨rfl, hb⟩; subst hb))
  rename_i hHeld
  have H2 := hide (H.out.below hHeld.2)
  clear hHeld c0 c1
  cases bb with
  | false =>
    go_wp2
    go_ret
    exact ⟨rfl, H2.out⟩
  | true =>
    have c1 := H2.out.rb.k
    have f1 := H2.out.rb.frozen 1
    have H3 := hide (H2.out.setK (k + p.size))
    have e : ((k + p.size : Nat) : Int) = (k : Int) + (p.size : Int) := by omega
    rw [e] at H3
    clear e
    go_wp2
    go_ret
    exact ⟨rfl, H3.out⟩
theorem take_yes (c : UInt8) (s : ByteArray) (k g : Nat) (o : Int) (w : World) (h : RB w g s k o) (hk : k ≤ s.size) (hs : s.size ≤ 120) (hc : (c.toNat : Int) ≠ 0) (hb : byt s k = (c.toNat : Int)) :
    Calls Try.prog 138 #[.pointer (some ⟨g, 0, none⟩), .string ⟨#[c]⟩] w fun e w' => e = .returned (.bool true) ∧ Mv w w' g s (k + 1) o :=
  take_any ⟨#[c]⟩ s k g o w h hk hs (Nat.le_refl _) true (by rw [has_one s k c hk hc, decide_eq_true hb])
theorem take_no (c : UInt8) (s : ByteArray) (k g : Nat) (o : Int) (w : World) (h : RB w g s k o) (hk : k ≤ s.size) (hs : s.size ≤ 120) (hc : (c.toNat : Int) ≠ 0) (hb : byt s k ≠ (c.toNat : Int)) :
    Calls Try.prog 138 #[.pointer (some ⟨g, 0, none⟩), .string ⟨#[c]⟩] w fun e w' => e = .returned (.bool false) ∧ Mv w w' g s k o :=
  take_any ⟨#[c]⟩ s k g o w h hk hs (Nat.le_refl _) false (by rw [has_one s k c hk hc, decide_eq_false hb])
theorem take_nil (s : ByteArray) (k g : Nat) (o : Int) (w : World) (h : RB w g s k o) (hk : k ≤ s.size) (hs : s.size ≤ 120) :
    Calls Try.prog 138 #[.pointer (some ⟨g, 0, none⟩), .string ⟨#[]⟩] w fun e w' => e = .returned (.bool true) ∧ Mv w w' g s k o :=
  take_any ⟨#[]⟩ s k g o w h hk hs (by decide) true (by rw [has_none])
end Go.Proofs.Ytapffbbmofhpoab.L5

namespace Go.Proofs.Ytapffbbmofhpoab.L5
open Go.RowKit L1 L4
set_option linter.unusedVariables false

attribute [local go_sem] mk_noText mk_emptyText mk_oneLetter mk_anyLetter mk_thenShape mk_eitherShape mk_manyShape mk_notShape as_noText_noText as_noText_emptyText as_noText_oneLetter as_noText_anyLetter as_noText_thenShape as_noText_eitherShape as_noText_manyShape as_noText_notShape as_emptyText_noText as_emptyText_emptyText as_emptyText_oneLetter as_emptyText_anyLetter as_emptyText_thenShape as_emptyText_eitherShape as_emptyText_manyShape as_emptyText_notShape as_oneLetter_noText as_oneLetter_emptyText as_oneLetter_oneLetter as_oneLetter_anyLetter as_oneLetter_thenShape as_oneLetter_eitherShape as_oneLetter_manyShape as_oneLetter_notShape as_anyLetter_noText as_anyLetter_emptyText as_anyLetter_oneLetter as_anyLetter_anyLetter as_anyLetter_thenShape as_anyLetter_eitherShape as_anyLetter_manyShape as_anyLetter_notShape as_thenShape_noText as_thenShape_emptyText as_thenShape_oneLetter as_thenShape_anyLetter as_thenShape_thenShape as_thenShape_eitherShape as_thenShape_manyShape as_thenShape_notShape as_eitherShape_noText as_eitherShape_emptyText as_eitherShape_oneLetter as_eitherShape_anyLetter as_eitherShape_thenShape as_eitherShape_eitherShape as_eitherShape_manyShape as_eitherShape_notShape as_manyShape_noText as_manyShape_emptyText as_manyShape_oneLetter as_manyShape_anyLetter as_manyShape_thenShape as_manyShape_eitherShape as_manyShape_manyShape as_manyShape_notShape as_notShape_noText as_notShape_emptyText as_notShape_oneLetter as_notShape_anyLetter as_notShape_thenShape as_notShape_eitherShape as_notShape_manyShape as_notShape_notShape
def rv : Option Sh → Value
  | some x => sv x
  | none => .nilIface
/-- What read hands back. -/
def RdP (w : World) (g : Nat) (s : ByteArray) (o : Int) (r : Option Sh × Nat) (e : Ending) (w' : World) : Prop :=
  e = .returned (.tuple #[rv r.1, .bool r.1.isSome]) ∧ ∃ o', (r.1.isSome = true → o' = o) ∧ Mv w w' g s r.2 o'
def RC (n : Nat) : Prop := ∀ (s : ByteArray) (k g : Nat) (o : Int) (w : World), RB w g s k o → k ≤ s.size → s.size ≤ 120 → 0 ≤ o → o + n = 61 → Calls Try.prog 104 #[.pointer (some ⟨g, 0, none⟩)] w fun e w' => RdP w g s o (prs s n k) e w'
theorem RC.no {n : Nat} (h : RC n) {s : ByteArray} {k k2 : Nat} (he : prs s n k = (none, k2)) (g : Nat) (o : Int) (w : World) (hr : RB w g s k o) (hk : k ≤ s.size) (hs : s.size ≤ 120) (h0 : 0 ≤ o) (ho : o + n = 61) : Calls Try.prog 104 #[.pointer (some ⟨g, 0, none⟩)] w fun e w' => e = .returned (.tuple #[.nilIface, .bool false]) ∧ ∃ o', Mv w w' g s k2 o' := by
  refine (h s k g o w hr hk hs h0 ho).mono ?_
  rintro e w' ⟨h1, o', _, h2⟩
  rw [he] at h1 h2
  exact ⟨h1, o', h2⟩
theorem RC.yes {n : Nat} (h : RC n) {s : ByteArray} {k k2 : Nat} {x : Sh} (he : prs s n k = (some x, k2)) (g : Nat) (o : Int) (w : World) (hr : RB w g s k o) (hk : k ≤ s.size) (hs : s.size ≤ 120) (h0 : 0 ≤ o) (ho : o + n = 61) : Calls Try.prog 104 #[.pointer (some ⟨g, 0, none⟩)] w fun e w' => e = .returned (.tuple #[sv x, .bool true]) ∧ Mv w w' g s k2 o := by
  refine (h s k g o w hr hk hs h0 ho).mono ?_
  rintro e w' ⟨h1, o', h3, h2⟩
  rw [he] at h1 h2 h3
  obtain rfl := h3 rfl
  exact ⟨h1, h2⟩
/-- What readTwo hands back. -/
def RtP (w : World) (g : Nat) (s : ByteArray) (o : Int) (mk : Sh → Sh → Sh) (r : Option Sh × Nat) (e : Ending) (w' : World) : Prop :=
  ∃ o', Mv w w' g s r.2 o' ∧ ((r.1 = none ∧ e = .returned (.tuple #[.nilIface, .nilIface, .bool false])) ∨ ∃ a b, r.1 = some (mk a b) ∧ o' = o ∧ e = .returned (.tuple #[sv a, sv b, .bool true]))
theorem rtp_no {w w' : World} {g k : Nat} {s : ByteArray} {o o' : Int} {mk : Sh → Sh → Sh} (h : Mv w w' g s k o') : RtP w g s o mk (none, k) (.returned (.tuple #[.nilIface, .nilIface, .bool false])) w' := ⟨o', h, .inl ⟨rfl, rfl⟩⟩
theorem rtp_yes {w w' : World} {g k : Nat} {s : ByteArray} {o : Int} {mk : Sh → Sh → Sh} {a b : Sh} (h : Mv w w' g s k o) : RtP w g s o mk (some (mk a b), k) (.returned (.tuple #[sv a, sv b, .bool true])) w' := ⟨o, h, .inr ⟨a, b, rfl, rfl, rfl⟩⟩
set_option maxRecDepth 100000 in
set_option maxHeartbeats 4000000 in
theorem readTwo_seq (n : Nat) (IH : RC n) (s : ByteArray) (k g : Nat) (o : Int) (w : World) (h : RB w g s k o) (hk : k ≤ s.size) (hs : s.size ≤ 120) (h0 : 0 ≤ o) (ho : o + n = 60) :
    Calls Try.prog 152 #[.pointer (some ⟨g, 0, none⟩), .string ⟨#[]⟩, .string ⟨#[41]⟩] w fun e w' => RtP w g s o .seq (twoOf (prs s n) s 0 41 .seq k) e w' := by
  have ho60 : o ≤ 60 := by omega
  have c2 := h.o
  have f2 := h.frozen 2
  have H1 := hide ((Mv.refl h).setO (o + 1))
  have hin := prs_in s n k hk
  unfold twoOf
  rcases he : prs s n k with ⟨r1, k2⟩
  rw [he] at hin
  have hk2 : k2 ≤ s.size := hin.2
  clear h hin
  cases r1 with
  | none =>
    have C1 := hide (fun w h => IH.no he g (o + 1) w h hk hs (by omega) (by omega))
    clear he
    go_enter Try.func152, Try.ntmps152
    go_wp2_with fail
    refine (C1.out _ H1.out.rb).mono ?_
    rintro e w2 ⟨rfl, o2, m2⟩
    have M2 := hide (H1.out.trans m2)
    clear m2 c2 f2
    go_wp2
    go_ret3
    exact rtp_no M2.out
  | some a =>
    have C1 := hide (fun w h => IH.yes he g (o + 1) w h hk hs (by omega) (by omega))
    clear he
    simp only
    rw [if_neg (fun h => h.1 rfl)]
    simp only [if_true]
    have C2 := hide (fun w h => take_nil s k2 g (o + 1) w h hk2 hs)
    have hk3 : k2 ≤ s.size := hk2
    have hin2 := prs_in s n k2 hk3
    rcases he2 : prs s n k2 with ⟨r2, k4⟩
    rw [he2] at hin2
    have hk4 : k4 ≤ s.size := hin2.2
    clear hin2
    cases r2 with
    | none =>
      have C3 := hide (fun w h => IH.no he2 g (o + 1) w h hk3 hs (by omega) (by omega))
      clear he2
      go_enter Try.func152, Try.ntmps152
      go_wp2_with fail
      refine (C1.out _ H1.out.rb).mono ?_
      rintro e w2 ⟨rfl, m2⟩
      have M2 := hide (H1.out.trans m2)
      clear m2 c2 f2
      go_wp2_with fail
      refine (C2.out _ M2.out.rb).mono ?_
      rintro e w3 ⟨rfl, m3⟩
      have M3 := hide (M2.out.trans m3)
      clear m3
      go_wp2_with fail
      refine (C3.out _ M3.out.rb).mono ?_
      rintro e w4 ⟨rfl, o4, m4⟩
      have M4 := hide (M3.out.trans m4)
      clear m4
      go_wp2
      go_ret3
      exact rtp_no M4.out
    | some b =>
      have C3 := hide (fun w h => IH.yes he2 g (o + 1) w h hk3 hs (by omega) (by omega))
      clear he2
      simp only
      by_cases hq : byt s k4 = 41
      · rw [if_pos hq]
        have C4 := hide (fun w h => take_yes 41 s k4 g (o + 1) w h hk4 hs (by decide) hq)
        clear hq
        go_enter Try.func152, Try.ntmps152
        go_wp2_with fail
        refine (C1.out _ H1.out.rb).mono ?_
        rintro e w2 ⟨rfl, m2⟩
        have M2 := hide (H1.out.trans m2)
        clear m2 c2 f2
        go_wp2_with fail
        refine (C2.out _ M2.out.rb).mono ?_
        rintro e w3 ⟨rfl, m3⟩
        have M3 := hide (M2.out.trans m3)
        clear m3
        go_wp2_with fail
        refine (C3.out _ M3.out.rb).mono ?_
        rintro e w4 ⟨rfl, m4⟩
        have M4 := hide (M3.out.trans m4)
        clear m4
        go_wp2_with fail
        refine (C4.out _ M4.out.rb).mono ?_
        rintro e w5 ⟨rfl, m5⟩
        have M5 := hide (M4.out.trans m5)
        have c5 := M5.out.rb.o
        have f5 := M5.out.rb.frozen 2
        have M6 := hide (M5.out.setO o)
        clear m5
        have e1 : o + 1 - 1 = o := by omega
        go_wp2
        go_ret3
        exact rtp_yes M6.out
      · rw [if_neg hq]
        have C4 := hide (fun w h => take_no 41 s k4 g (o + 1) w h hk4 hs (by decide) hq)
        clear hq
        go_enter Try.func152, Try.ntmps152
        go_wp2_with fail
        refine (C1.out _ H1.out.rb).mono ?_
        rintro e w2 ⟨rfl, m2⟩
        have M2 := hide (H1.out.trans m2)
        clear m2 c2 f2
        go_wp2_with fail
        refine (C2.out _ M2.out.rb).mono ?_
        rintro e w3 ⟨rfl, m3⟩
        have M3 := hide (M2.out.trans m3)
        clear m3
        go_wp2_with fail
        refine (C3.out _ M3.out.rb).mono ?_
        rintro e w4 ⟨rfl, m4⟩
        have M4 := hide (M3.out.trans m4)
        clear m4
        go_wp2_with fail
        refine (C4.out _ M4.out.rb).mono ?_
        rintro e w5 ⟨rfl, m5⟩
        have M5 := hide (M4.out.trans m5)
        clear m5
        go_wp2
        go_ret3
        exact rtp_no M5.out
set_option maxRecDepth 100000 in
set_option maxHeartbeats 4000000 in
theorem readTwo_alt (n : Nat) (IH : RC n) (s : ByteArray) (k g : Nat) (o : Int) (w : World) (h : RB w g s k o) (hk : k ≤ s.size) (hs : s.size ≤ 120) (h0 : 0 ≤ o) (ho : o + n = 60) :
    Calls Try.prog 152 #[.pointer (some ⟨g, 0, none⟩), .string ⟨#[124]⟩, .string ⟨#[93]⟩] w fun e w' => RtP w g s o .alt (twoOf (prs s n) s 124 93 .alt k) e w' := by
  have ho60 : o ≤ 60 := by omega
  have c2 := h.o
  have f2 := h.frozen 2
  have H1 := hide ((Mv.refl h).setO (o + 1))
  have hin := prs_in s n k hk
  unfold twoOf
  rcases he : prs s n k with ⟨r1, k2⟩
  rw [he] at hin
  have hk2 : k2 ≤ s.size := hin.2
  clear h hin
  cases r1 with
  | none =>
    have C1 := hide (fun w h => IH.no he g (o + 1) w h hk hs (by omega) (by omega))
    clear he
    go_enter Try.func152, Try.ntmps152
    go_wp2_with fail
    refine (C1.out _ H1.out.rb).mono ?_
    rintro e w2 ⟨rfl, o2, m2⟩
    have M2 := hide (H1.out.trans m2)
    clear m2 c2 f2
    go_wp2
    go_ret3
    exact rtp_no M2.out
  | some a =>
    have C1 := hide (fun w h => IH.yes he g (o + 1) w h hk hs (by omega) (by omega))
    clear he
    simp only
    by_cases hm : byt s k2 = 124
    · rw [if_neg (fun h => h.2 hm), if_neg (by decide)]
      have C2 := hide (fun w h => take_yes 124 s k2 g (o + 1) w h hk2 hs (by decide) hm)
      have hk3 : k2 + 1 ≤ s.size := byt_lt (by omega)
      have hin2 := prs_in s n (k2 + 1) hk3
      rcases he2 : prs s n (k2 + 1) with ⟨r2, k4⟩
      rw [he2] at hin2
      have hk4 : k4 ≤ s.size := hin2.2
      clear hin2
      cases r2 with
      | none =>
        have C3 := hide (fun w h => IH.no he2 g (o + 1) w h hk3 hs (by omega) (by omega))
        clear he2
        go_enter Try.func152, Try.ntmps152
        go_wp2_with fail
        refine (C1.out _ H1.out.rb).mono ?_
        rintro e w2 ⟨rfl, m2⟩
        have M2 := hide (H1.out.trans m2)
        clear m2 c2 f2
        go_wp2_with fail
        refine (C2.out _ M2.out.rb).mono ?_
        rintro e w3 ⟨rfl, m3⟩
        have M3 := hide (M2.out.trans m3)
        clear m3
        go_wp2_with fail
        refine (C3.out _ M3.out.rb).mono ?_
        rintro e w4 ⟨rfl, o4, m4⟩
        have M4 := hide (M3.out.trans m4)
        clear m4
        go_wp2
        go_ret3
        exact rtp_no M4.out
      | some b =>
        have C3 := hide (fun w h => IH.yes he2 g (o + 1) w h hk3 hs (by omega) (by omega))
        clear he2
        simp only
        by_cases hq : byt s k4 = 93
        · rw [if_pos hq]
          have C4 := hide (fun w h => take_yes 93 s k4 g (o + 1) w h hk4 hs (by decide) hq)
          clear hq
          go_enter Try.func152, Try.ntmps152
          go_wp2_with fail
          refine (C1.out _ H1.out.rb).mono ?_
          rintro e w2 ⟨rfl, m2⟩
          have M2 := hide (H1.out.trans m2)
          clear m2 c2 f2
          go_wp2_with fail
          refine (C2.out _ M2.out.rb).mono ?_
          rintro e w3 ⟨rfl, m3⟩
          have M3 := hide (M2.out.trans m3)
          clear m3
          go_wp2_with fail
          refine (C3.out _ M3.out.rb).mono ?_
          rintro e w4 ⟨rfl, m4⟩
          have M4 := hide (M3.out.trans m4)
          clear m4
          go_wp2_with fail
          refine (C4.out _ M4.out.rb).mono ?_
          rintro e w5 ⟨rfl, m5⟩
          have M5 := hide (M4.out.trans m5)
          have c5 := M5.out.rb.o
          have f5 := M5.out.rb.frozen 2
          have M6 := hide (M5.out.setO o)
          clear m5
          have e1 : o + 1 - 1 = o := by omega
          go_wp2
          go_ret3
          exact rtp_yes M6.out
        · rw [if_neg hq]
          have C4 := hide (fun w h => take_no 93 s k4 g (o + 1) w h hk4 hs (by decide) hq)
          clear hq
          go_enter Try.func152, Try.ntmps152
          go_wp2_with fail
          refine (C1.out _ H1.out.rb).mono ?_
          rintro e w2 ⟨rfl, m2⟩
          have M2 := hide (H1.out.trans m2)
          clear m2 c2 f2
          go_wp2_with fail
          refine (C2.out _ M2.out.rb).mono ?_
          rintro e w3 ⟨rfl, m3⟩
          have M3 := hide (M2.out.trans m3)
          clear m3
          go_wp2_with fail
          refine (C3.out _ M3.out.rb).mono ?_
          rintro e w4 ⟨rfl, m4⟩
          have M4 := hide (M3.out.trans m4)
          clear m4
          go_wp2_with fail
          refine (C4.out _ M4.out.rb).mono ?_
          rintro e w5 ⟨rfl, m5⟩
          have M5 := hide (M4.out.trans m5)
          clear m5
          go_wp2
          go_ret3
          exact rtp_no M5.out
    · rw [if_pos ⟨by decide, hm⟩]
      have C2 := hide (fun w h => take_no 124 s k2 g (o + 1) w h hk2 hs (by decide) hm)
      clear hm
      go_enter Try.func152, Try.ntmps152
      go_wp2_with fail
      refine (C1.out _ H1.out.rb).mono ?_
      rintro e w2 ⟨rfl, m2⟩
      have M2 := hide (H1.out.trans m2)
      clear m2 c2 f2
      go_wp2_with fail
      refine (C2.out _ M2.out.rb).mono ?_
      rintro e w3 ⟨rfl, m3⟩
      have M3 := hide (M2.out.trans m3)
      clear m3
      go_wp2
      go_ret3
      exact rtp_no M3.out
end Go.Proofs.Ytapffbbmofhpoab.L5

namespace Go.Proofs.Ytapffbbmofhpoab.L5
open Go.RowKit L1 L4
set_option linter.unusedVariables false

attribute [local go_sem] mk_noText mk_emptyText mk_oneLetter mk_anyLetter mk_thenShape mk_eitherShape mk_manyShape mk_notShape as_noText_noText as_noText_emptyText as_noText_oneLetter as_noText_anyLetter as_noText_thenShape as_noText_eitherShape as_noText_manyShape as_noText_notShape as_emptyText_noText as_emptyText_emptyText as_emptyText_oneLetter as_emptyText_anyLetter as_emptyText_thenShape as_emptyText_eitherShape as_emptyText_manyShape as_emptyText_notShape as_oneLetter_noText as_oneLetter_emptyText as_oneLetter_oneLetter as_oneLetter_anyLetter as_oneLetter_thenShape as_oneLetter_eitherShape as_oneLetter_manyShape as_oneLetter_notShape as_anyLetter_noText as_anyLetter_emptyText as_anyLetter_oneLetter as_anyLetter_anyLetter as_anyLetter_thenShape as_anyLetter_eitherShape as_anyLetter_manyShape as_anyLetter_notShape as_thenShape_noText as_thenShape_emptyText as_thenShape_oneLetter as_thenShape_anyLetter as_thenShape_thenShape as_thenShape_eitherShape as_thenShape_manyShape as_thenShape_notShape as_eitherShape_noText as_eitherShape_emptyText as_eitherShape_oneLetter as_eitherShape_anyLetter as_eitherShape_thenShape as_eitherShape_eitherShape as_eitherShape_manyShape as_eitherShape_notShape as_manyShape_noText as_manyShape_emptyText as_manyShape_oneLetter as_manyShape_anyLetter as_manyShape_thenShape as_manyShape_eitherShape as_manyShape_manyShape as_manyShape_notShape as_notShape_noText as_notShape_emptyText as_notShape_oneLetter as_notShape_anyLetter as_notShape_thenShape as_notShape_eitherShape as_notShape_manyShape as_notShape_notShape
/-- What readFirst hands back. -/
def RfP (w : World) (g : Nat) (s : ByteArray) (o : Int) (r : Option Sh × Nat) (e : Ending) (w' : World) : Prop :=
  ∃ o', Mv w w' g s r.2 o' ∧ ((r.1 = none ∧ ∃ v, e = .returned (.tuple #[v, .bool false])) ∨ ∃ x, r.1 = some x ∧ o' = o ∧ e = .returned (.tuple #[sv x, .bool true]))
theorem rfp_no {w w' : World} {g k : Nat} {s : ByteArray} {o o' : Int} {v : Value} (h : Mv w w' g s k o') : RfP w g s o (none, k) (.returned (.tuple #[v, .bool false])) w' := ⟨o', h, .inl ⟨rfl, _, rfl⟩⟩
theorem rfp_yes {w w' : World} {g k : Nat} {s : ByteArray} {o : Int} {x : Sh} {v : Value} (h : Mv w w' g s k o) (hv : v = sv x) : RfP w g s o (some x, k) (.returned (.tuple #[v, .bool true])) w' := ⟨o, h, .inr ⟨x, rfl, rfl, by rw [hv]⟩⟩
theorem wrap32 {c : Int} (h0 : 0 ≤ c) (h1 : c < 256) : IntKind.i32.wrap c = c := by
  simp only [IntKind.wrap, IntKind.bits, IntKind.signed]
  simp
  omega
theorem Mv.drewN {w w' : World} {g k : Nat} {s : ByteArray} {o : Int} (h : Mv w w' g s k o) : ∀ q, Mv w (w'.drewN q) g s k o
  | 0 => h
  | q + 1 => (h.drewN q).below (Below.refl _ _).drew
theorem isLetterB (r : Int) (w : World) (bb : Bool) (hb : bb = true ↔ okc r) : Calls Try.prog 93 #[.int .i32 r] w fun e w' => e = .returned (.bool bb) ∧ Below w.heap.size w w' :=
  (isLetter_any r w bb hb).mono fun e w' h => ⟨h.1, h.2 ▸ Below.refl _ _⟩
def ltrOf (s : ByteArray) (k : Nat) : Option Sh × Nat := if 97 ≤ byt s k ∧ byt s k ≤ 122 then (some (.letter (byt s k)), k + 1) else (none, k)
set_option maxRecDepth 100000 in
set_option maxHeartbeats 4000000 in
theorem readLetter_any (s : ByteArray) (k g : Nat) (o : Int) (w : World) (h : RB w g s k o) (hk : k ≤ s.size) (hs : s.size ≤ 120) :
    Calls Try.prog 153 #[.pointer (some ⟨g, 0, none⟩)] w fun e w' => RfP w g s o (ltrOf s k) e w' := by
  have c0 := h.s
  have c1 := h.k
  have H := hide (Mv.refl h)
  unfold ltrOf
  by_cases hlt : k < s.size
  · have hb : byt s k = ((s[k]'hlt).toNat : Int) := bts_at s k hlt
    have hby := byt_byte s k
    have hne : ¬ (k : Int) = (s.size : Int) := by omega
    have hneb : ((k : Int) == (s.size : Int)) = false := by simpa using hne
    have hltI : (k : Int) < (s.size : Int) := by omega
    obtain ⟨c, hc⟩ : ∃ c, c = byt s k := ⟨_, rfl⟩
    rw [← hc] at hb hby ⊢
    obtain ⟨hby0, hby1⟩ := hby
    have hb2 := hb.symm
    clear hc hb h
    by_cases hl : 97 ≤ c ∧ c ≤ 122
    · rw [if_pos hl]
      have C := hide (fun w => isLetterB (IntKind.i32.wrap c) w true (iff_of_true rfl (by rw [wrap32 hby0 hby1]; exact hl)))
      clear hl
      go_enter Try.func153, Try.ntmps153
      go_wp2
      go_region_held3 (fun wx => (wx.cell? ⟨g, 0, none⟩ = some (.string s) ∧ wx.cell? ⟨g, 1, none⟩ = some (.int .i64 (k : Int))) ∧ Below w.heap.size w wx) (first | exact ⟨⟨c0, c1⟩, (Below.refl _ _).drew⟩ | exact keepR (by assumption) (by assumption) (Nat.le_refl _)) ((go_at_call 93; refine (C.out _).mono ?_; rintro e w1 ⟨rfl, hb⟩))
      rename_i hHeld
      have H2 := hide (H.out.below hHeld.2)
      clear hHeld c0 c1
      have c1 := H2.out.rb.k
      have f1 := H2.out.rb.frozen 1
      have H3 := hide (H2.out.setK (k + 1))
      have ek : ((k + 1 : Nat) : Int) = (k : Int) + 1 := by omega
      have d0 := H3.out.rb.s
      have d1 := H3.out.rb.k
      rw [ek] at H3 d0 d1
      have e1 : (k : Int) + 1 - 1 = (k : Int) := by omega
      clear ek
      go_wp2
      go_quiet (fail)
      go_wp2
      go_ret2
      exact rfp_yes (H3.out.drewN _) rfl
    · rw [if_neg hl]
      have C := hide (fun w => isLetterB (IntKind.i32.wrap c) w false (iff_of_false (by simp) (by rw [wrap32 hby0 hby1]; exact hl)))
      clear hl
      go_enter Try.func153, Try.ntmps153
      go_wp2
      go_region_held3 (fun wx => (wx.cell? ⟨g, 0, none⟩ = some (.string s) ∧ wx.cell? ⟨g, 1, none⟩ = some (.int .i64 (k : Int))) ∧ Below w.heap.size w wx) (first | exact ⟨⟨c0, c1⟩, (Below.refl _ _).drew⟩ | exact keepR (by assumption) (by assumption) (Nat.le_refl _)) ((go_at_call 93; refine (C.out _).mono ?_; rintro e w1 ⟨rfl, hb⟩))
      rename_i hHeld
      have H2 := hide (H.out.below hHeld.2)
      clear hHeld c0 c1
      go_wp2
      go_ret2
      exact rfp_no H2.out
  · have h0 : byt s k = 0 := byt_end (by omega)
    rw [h0, if_neg (by omega)]
    obtain rfl : k = s.size := by omega
    clear h0 hlt h
    go_enter Try.func153, Try.ntmps153
    go_wp2
    go_quiet (fail)
    go_wp2
    go_ret2
    exact rfp_no (H.out.drewN _)
end Go.Proofs.Ytapffbbmofhpoab.L5

namespace Go.Proofs.Ytapffbbmofhpoab.L5
open Go.RowKit L1 L4
set_option linter.unusedVariables false

attribute [local go_sem] mk_noText mk_emptyText mk_oneLetter mk_anyLetter mk_thenShape mk_eitherShape mk_manyShape mk_notShape as_noText_noText as_noText_emptyText as_noText_oneLetter as_noText_anyLetter as_noText_thenShape as_noText_eitherShape as_noText_manyShape as_noText_notShape as_emptyText_noText as_emptyText_emptyText as_emptyText_oneLetter as_emptyText_anyLetter as_emptyText_thenShape as_emptyText_eitherShape as_emptyText_manyShape as_emptyText_notShape as_oneLetter_noText as_oneLetter_emptyText as_oneLetter_oneLetter as_oneLetter_anyLetter as_oneLetter_thenShape as_oneLetter_eitherShape as_oneLetter_manyShape as_oneLetter_notShape as_anyLetter_noText as_anyLetter_emptyText as_anyLetter_oneLetter as_anyLetter_anyLetter as_anyLetter_thenShape as_anyLetter_eitherShape as_anyLetter_manyShape as_anyLetter_notShape as_thenShape_noText as_thenShape_emptyText as_thenShape_oneLetter as_thenShape_anyLetter as_thenShape_thenShape as_thenShape_eitherShape as_thenShape_manyShape as_thenShape_notShape as_eitherShape_noText as_eitherShape_emptyText as_eitherShape_oneLetter as_eitherShape_anyLetter as_eitherShape_thenShape as_eitherShape_eitherShape as_eitherShape_manyShape as_eitherShape_notShape as_manyShape_noText as_manyShape_emptyText as_manyShape_oneLetter as_manyShape_anyLetter as_manyShape_thenShape as_manyShape_eitherShape as_manyShape_manyShape as_manyShape_notShape as_notShape_noText as_notShape_emptyText as_notShape_oneLetter as_notShape_anyLetter as_notShape_thenShape as_notShape_eitherShape as_notShape_manyShape as_notShape_notShape
set_option maxRecDepth 100000 in
set_option maxHeartbeats 8000000 in
theorem readFirst_any (n : Nat) (IH : RC n) (s : ByteArray) (k g : Nat) (o : Int) (w : World) (h : RB w g s k o) (hk : k ≤ s.size) (hs : s.size ≤ 120) (h0 : 0 ≤ o) (ho : o + n = 60) :
    Calls Try.prog 137 #[.pointer (some ⟨g, 0, none⟩)] w fun e w' => RfP w g s o (firstOf (prs s n) s k) e w' := by
  have H := hide (Mv.refl h)
  by_cases q0 : byt s k = 33
  · have e : firstOf (prs s n) s k = (some .none, k + 1) := by
      unfold firstOf
      rw [if_pos q0]
    rw [e]
    clear e
    have T0 := hide (fun w h => take_yes 33 s k g o w h hk hs (by decide) q0)
    clear q0 h
    have M0 := H
    go_enter Try.func137, Try.ntmps137
    go_wp2_with fail
    refine (T0.out _ M0.out.rb).mono ?_
    rintro e w1 ⟨rfl, m⟩
    have M1 := hide (M0.out.trans m)
    clear m
    go_wp2
    go_ret2
    exact rfp_yes M1.out rfl
  by_cases q1 : byt s k = 37
  · have e : firstOf (prs s n) s k = (some .empty, k + 1) := by
      unfold firstOf
      rw [if_neg q0, if_pos q1]
    rw [e]
    clear e
    have T0 := hide (fun w h => take_no 33 s k g o w h hk hs (by decide) q0)
    have T1 := hide (fun w h => take_yes 37 s k g o w h hk hs (by decide) q1)
    clear q0 q1 h
    have M0 := H
    go_enter Try.func137, Try.ntmps137
    go_wp2_with fail
    refine (T0.out _ M0.out.rb).mono ?_
    rintro e w1 ⟨rfl, m⟩
    have M1 := hide (M0.out.trans m)
    clear m
    go_wp2_with fail
    refine (T1.out _ M1.out.rb).mono ?_
    rintro e w2 ⟨rfl, m⟩
    have M2 := hide (M1.out.trans m)
    clear m
    go_wp2
    go_ret2
    exact rfp_yes M2.out rfl
  by_cases q2 : byt s k = 46
  · have e : firstOf (prs s n) s k = (some .any, k + 1) := by
      unfold firstOf
      rw [if_neg q0, if_neg q1, if_pos q2]
    rw [e]
    clear e
    have T0 := hide (fun w h => take_no 33 s k g o w h hk hs (by decide) q0)
    have T1 := hide (fun w h => take_no 37 s k g o w h hk hs (by decide) q1)
    have T2 := hide (fun w h => take_yes 46 s k g o w h hk hs (by decide) q2)
    clear q0 q1 q2 h
    have M0 := H
    go_enter Try.func137, Try.ntmps137
    go_wp2_with fail
    refine (T0.out _ M0.out.rb).mono ?_
    rintro e w1 ⟨rfl, m⟩
    have M1 := hide (M0.out.trans m)
    clear m
    go_wp2_with fail
    refine (T1.out _ M1.out.rb).mono ?_
    rintro e w2 ⟨rfl, m⟩
    have M2 := hide (M1.out.trans m)
    clear m
    go_wp2_with fail
    refine (T2.out _ M2.out.rb).mono ?_
    rintro e w3 ⟨rfl, m⟩
    have M3 := hide (M2.out.trans m)
    clear m
    go_wp2
    go_ret2
    exact rfp_yes M3.out rfl
  by_cases q3 : byt s k = 40
  · have e : firstOf (prs s n) s k = twoOf (prs s n) s 0 41 .seq (k + 1) := by
      unfold firstOf
      rw [if_neg q0, if_neg q1, if_neg q2, if_pos q3]
    rw [e]
    clear e
    have T0 := hide (fun w h => take_no 33 s k g o w h hk hs (by decide) q0)
    have T1 := hide (fun w h => take_no 37 s k g o w h hk hs (by decide) q1)
    have T2 := hide (fun w h => take_no 46 s k g o w h hk hs (by decide) q2)
    have T3 := hide (fun w h => take_yes 40 s k g o w h hk hs (by decide) q3)
    have hk1 : k + 1 ≤ s.size := byt_lt (by omega)
    have C := hide (fun w h => readTwo_seq n IH s (k + 1) g o w h hk1 hs h0 ho)
    obtain ⟨r, hr⟩ : ∃ r, r = twoOf (prs s n) s 0 41 .seq (k + 1) := ⟨_, rfl⟩
    simp only [← hr] at C ⊢
    clear q0 q1 q2 q3 hr h
    have M0 := H
    go_enter Try.func137, Try.ntmps137
    go_wp2_with fail
    refine (T0.out _ M0.out.rb).mono ?_
    rintro e w1 ⟨rfl, m⟩
    have M1 := hide (M0.out.trans m)
    clear m
    go_wp2_with fail
    refine (T1.out _ M1.out.rb).mono ?_
    rintro e w2 ⟨rfl, m⟩
    have M2 := hide (M1.out.trans m)
    clear m
    go_wp2_with fail
    refine (T2.out _ M2.out.rb).mono ?_
    rintro e w3 ⟨rfl, m⟩
    have M3 := hide (M2.out.trans m)
    clear m
    go_wp2_with fail
    refine (T3.out _ M3.out.rb).mono ?_
    rintro e w4 ⟨rfl, m⟩
    have M4 := hide (M3.out.trans m)
    clear m
    go_wp2_with fail
    refine (C.out _ M4.out.rb).mono ?_
    rintro e w9 ⟨o9, m9, ⟨hn, rfl⟩ | ⟨a, b, hx, rfl, rfl⟩⟩
    · have M9 := hide (M4.out.trans m9)
      have HN := hide hn
      clear m9 hn
      go_wp2
      go_ret2
      exact ⟨o9, M9.out, .inl ⟨HN.out, _, rfl⟩⟩
    · have M9 := hide (M4.out.trans m9)
      have HX := hide hx
      clear m9 hx
      go_wp2
      go_ret2
      exact ⟨_, M9.out, .inr ⟨_, HX.out, rfl, rfl⟩⟩
  by_cases q4 : byt s k = 91
  · have e : firstOf (prs s n) s k = twoOf (prs s n) s 124 93 .alt (k + 1) := by
      unfold firstOf
      rw [if_neg q0, if_neg q1, if_neg q2, if_neg q3, if_pos q4]
    rw [e]
    clear e
    have T0 := hide (fun w h => take_no 33 s k g o w h hk hs (by decide) q0)
    have T1 := hide (fun w h => take_no 37 s k g o w h hk hs (by decide) q1)
    have T2 := hide (fun w h => take_no 46 s k g o w h hk hs (by decide) q2)
    have T3 := hide (fun w h => take_no 40 s k g o w h hk hs (by decide) q3)
    have T4 := hide (fun w h => take_yes 91 s k g o w h hk hs (by decide) q4)
    have hk1 : k + 1 ≤ s.size := byt_lt (by omega)
    have C := hide (fun w h => readTwo_alt n IH s (k + 1) g o w h hk1 hs h0 ho)
    obtain ⟨r, hr⟩ : ∃ r, r = twoOf (prs s n) s 124 93 .alt (k + 1) := ⟨_, rfl⟩
    simp only [← hr] at C ⊢
    clear q0 q1 q2 q3 q4 hr h
    have M0 := H
    go_enter Try.func137, Try.ntmps137
    go_wp2_with fail
    refine (T0.out _ M0.out.rb).mono ?_
    rintro e w1 ⟨rfl, m⟩
    have M1 := hide (M0.out.trans m)
    clear m
    go_wp2_with fail
    refine (T1.out _ M1.out.rb).mono ?_
    rintro e w2 ⟨rfl, m⟩
    have M2 := hide (M1.out.trans m)
    clear m
    go_wp2_with fail
    refine (T2.out _ M2.out.rb).mono ?_
    rintro e w3 ⟨rfl, m⟩
    have M3 := hide (M2.out.trans m)
    clear m
    go_wp2_with fail
    refine (T3.out _ M3.out.rb).mono ?_
    rintro e w4 ⟨rfl, m⟩
    have M4 := hide (M3.out.trans m)
    clear m
    go_wp2_with fail
    refine (T4.out _ M4.out.rb).mono ?_
    rintro e w5 ⟨rfl, m⟩
    have M5 := hide (M4.out.trans m)
    clear m
    go_wp2_with fail
    refine (C.out _ M5.out.rb).mono ?_
    rintro e w9 ⟨o9, m9, ⟨hn, rfl⟩ | ⟨a, b, hx, rfl, rfl⟩⟩
    · have M9 := hide (M5.out.trans m9)
      have HN := hide hn
      clear m9 hn
      go_wp2
      go_ret2
      exact ⟨o9, M9.out, .inl ⟨HN.out, _, rfl⟩⟩
    · have M9 := hide (M5.out.trans m9)
      have HX := hide hx
      clear m9 hx
      go_wp2
      go_ret2
      exact ⟨_, M9.out, .inr ⟨_, HX.out, rfl, rfl⟩⟩
  have e : firstOf (prs s n) s k = ltrOf s k := by
    unfold firstOf ltrOf
    rw [if_neg q0, if_neg q1, if_neg q2, if_neg q3, if_neg q4]
  rw [e]
  clear e
  have T0 := hide (fun w h => take_no 33 s k g o w h hk hs (by decide) q0)
  have T1 := hide (fun w h => take_no 37 s k g o w h hk hs (by decide) q1)
  have T2 := hide (fun w h => take_no 46 s k g o w h hk hs (by decide) q2)
  have T3 := hide (fun w h => take_no 40 s k g o w h hk hs (by decide) q3)
  have T4 := hide (fun w h => take_no 91 s k g o w h hk hs (by decide) q4)
  have C := hide (fun w h => readLetter_any s k g o w h hk hs)
  obtain ⟨r, hr⟩ : ∃ r, r = ltrOf s k := ⟨_, rfl⟩
  simp only [← hr] at C ⊢
  clear q0 q1 q2 q3 q4 hr h
  have M0 := H
  go_enter Try.func137, Try.ntmps137
  go_wp2_with fail
  refine (T0.out _ M0.out.rb).mono ?_
  rintro e w1 ⟨rfl, m⟩
  have M1 := hide (M0.out.trans m)
  clear m
  go_wp2_with fail
  refine (T1.out _ M1.out.rb).mono ?_
  rintro e w2 ⟨rfl, m⟩
  have M2 := hide (M1.out.trans m)
  clear m
  go_wp2_with fail
  refine (T2.out _ M2.out.rb).mono ?_
  rintro e w3 ⟨rfl, m⟩
  have M3 := hide (M2.out.trans m)
  clear m
  go_wp2_with fail
  refine (T3.out _ M3.out.rb).mono ?_
  rintro e w4 ⟨rfl, m⟩
  have M4 := hide (M3.out.trans m)
  clear m
  go_wp2_with fail
  refine (T4.out _ M4.out.rb).mono ?_
  rintro e w5 ⟨rfl, m⟩
  have M5 := hide (M4.out.trans m)
  clear m
  go_wp2_with fail
  refine (C.out _ M5.out.rb).mono ?_
  rintro e w9 ⟨o9, m9, ⟨hn, v, rfl⟩ | ⟨x, hx, rfl, rfl⟩⟩
  · have M9 := hide (M5.out.trans m9)
    have HN := hide hn
    clear m9 hn
    go_wp2
    go_ret2
    exact ⟨o9, M9.out, .inl ⟨HN.out, _, rfl⟩⟩
  · have M9 := hide (M5.out.trans m9)
    have HX := hide hx
    clear m9 hx
    go_wp2
    go_ret2
    exact ⟨_, M9.out, .inr ⟨_, HX.out, rfl, rfl⟩⟩
def atOf (w : World) (g : Nat) : Nat := match w.cell? ⟨g, 1, none⟩ with
  | some v => (intOf v).toNat
  | none => 0
theorem at_of {w : World} {g k : Nat} {s : ByteArray} {o : Int} (h : RB w g s k o) : atOf w g = k := by
  unfold atOf
  rw [h.k]
  simp [intOf]
theorem read_zero : RC 0 := by
  intro s k g o w h hk hs h0 ho
  have c2 := h.o
  have H := hide (Mv.refl h)
  have ho61 : 60 < o := by omega
  show Calls Try.prog 104 #[.pointer (some ⟨g, 0, none⟩)] w fun e w' => RdP w g s o (none, k) e w'
  clear h
  go_enter Try.func104, Try.ntmps104
  go_wp2
  go_ret2
  exact ⟨rfl, _, (fun x => by cases x), H.out⟩
set_option maxRecDepth 100000 in
set_option maxHeartbeats 8000000 in
theorem read_succ (n : Nat) (IH : RC n) : RC (n + 1) := by
  intro s k g o w h hk hs h0 ho
  have c2 := h.o
  have H := hide (Mv.refl h)
  have ho60 : ¬ 60 < o := by omega
  have C := hide (readFirst_any n IH s k g o w h hk hs h0 (by omega))
  have hin := first_in (prs_in s n) k hk
  unfold prs
  rcases he : firstOf (prs s n) s k with ⟨r1, k1⟩
  rw [he] at hin
  simp only [he] at C
  have hk1 : k1 ≤ s.size := hin.2
  clear h hin he
  cases r1 with
  | none =>
    go_enter Try.func104, Try.ntmps104
    go_wp2_with fail
    refine C.out.mono ?_
    rintro e w2 ⟨o2, m2, ⟨_, v, rfl⟩ | ⟨x, hx, _⟩⟩
    · have M2 := hide m2
      clear m2 c2
      go_wp2
      go_loopw [] (fun wr => wr = w2) (fun _ => 0)
      case atStart => rfl
      case round =>
        subst hrel
        go_wp2
        go_ret2
        exact ⟨rfl, _, (fun x => by cases x), M2.out⟩
    · cases hx
  | some x =>
    simp only
    obtain ⟨R, hR⟩ : ∃ R, R = PP s x k1 := ⟨_, rfl⟩
    rw [← hR]
    have HR := hide hR.symm
    clear hR
    go_enter Try.func104, Try.ntmps104
    go_wp2_with fail
    refine C.out.mono ?_
    rintro e w2 ⟨o2, m2, ⟨hn, _⟩ | ⟨y, hy, rfl, rfl⟩⟩
    · cases hn
    · cases hy
      have M2 := hide m2
      clear m2 c2 C
      go_wp2
      go_loopw [4] (fun v wr => ∃ (z : Sh) (j : Nat), v = sv z ∧ j ≤ s.size ∧ PP s z j = R ∧ Hid (Mv w wr g s j o2)) (fun _ wr => s.size - atOf wr g)
      case atStart => exact ⟨x, k1, rfl, hk1, HR.out, M2⟩
      case round =>
        obtain ⟨z, j, rfl, hj, hpp, MJ⟩ := hrel
        have hat := at_of MJ.out.rb
        by_cases q1 : byt s j = 42
        · have T1 := hide (fun w h => take_yes 42 s j g o2 w h hj hs (by decide) q1)
          have hpp2 := hide ((PP_star q1).symm.trans hpp)
          have hj1 : j + 1 ≤ s.size := byt_lt (by omega)
          clear q1 hpp
          go_wp2_with fail
          refine (T1.out _ MJ.out.rb).mono ?_
          rintro e w3 ⟨rfl, m3⟩
          have M3 := hide (MJ.out.trans m3)
          have hat3 := at_of M3.out.rb
          clear m3
          go_wp2
          go_roundw
          case rel => exact ⟨.many z, j + 1, rfl, hj1, hpp2.out, M3⟩
          case measure => omega
        by_cases q2 : byt s j = 94
        · have T1 := hide (fun w h => take_no 42 s j g o2 w h hj hs (by decide) q1)
          have T2 := hide (fun w h => take_yes 94 s j g o2 w h hj hs (by decide) q2)
          have hpp2 := hide ((PP_hat q2).symm.trans hpp)
          have hj1 : j + 1 ≤ s.size := byt_lt (by omega)
          clear q1 q2 hpp
          go_wp2_with fail
          refine (T1.out _ MJ.out.rb).mono ?_
          rintro e w3 ⟨rfl, m3⟩
          have M3 := hide (MJ.out.trans m3)
          clear m3
          go_wp2_with fail
          refine (T2.out _ M3.out.rb).mono ?_
          rintro e w4 ⟨rfl, m4⟩
          have M4 := hide (M3.out.trans m4)
          have hat3 := at_of M4.out.rb
          clear m4
          go_wp2
          go_roundw
          case rel => exact ⟨.inv z, j + 1, rfl, hj1, hpp2.out, M4⟩
          case measure => omega
        · have T1 := hide (fun w h => take_no 42 s j g o2 w h hj hs (by decide) q1)
          have T2 := hide (fun w h => take_no 94 s j g o2 w h hj hs (by decide) q2)
          have hpp2 := (PP_stop q1 q2).symm.trans hpp
          subst hpp2
          clear q1 q2 hpp
          go_wp2_with fail
          refine (T1.out _ MJ.out.rb).mono ?_
          rintro e w3 ⟨rfl, m3⟩
          have M3 := hide (MJ.out.trans m3)
          clear m3
          go_wp2_with fail
          refine (T2.out _ M3.out.rb).mono ?_
          rintro e w4 ⟨rfl, m4⟩
          have M4 := hide (M3.out.trans m4)
          clear m4
          go_wp2
          go_ret2
          exact ⟨rfl, _, (fun _ => rfl), M4.out⟩
theorem read_any : ∀ n, RC n
  | 0 => read_zero
  | n + 1 => read_succ n (read_any n)
end Go.Proofs.Ytapffbbmofhpoab.L5

namespace Go.Proofs.Ytapffbbmofhpoab.L5
open Go.RowKit L1 L4
set_option linter.unusedVariables false
theorem kind_noText (v : Value) (w : World) : (callMethod (.iface 175 v) "loop.example/g00522/impl.kind" #[]).run Try.prog w = .ok (.enter 180 #[v]) w := by kernel_rfl
theorem kind_emptyText (v : Value) (w : World) : (callMethod (.iface 162 v) "loop.example/g00522/impl.kind" #[]).run Try.prog w = .ok (.enter 173 #[v]) w := by kernel_rfl
theorem kind_oneLetter (v : Value) (w : World) : (callMethod (.iface 170 v) "loop.example/g00522/impl.kind" #[]).run Try.prog w = .ok (.enter 178 #[v]) w := by kernel_rfl
theorem kind_anyLetter (v : Value) (w : World) : (callMethod (.iface 173 v) "loop.example/g00522/impl.kind" #[]).run Try.prog w = .ok (.enter 179 #[v]) w := by kernel_rfl
theorem kind_thenShape (v : Value) (w : World) : (callMethod (.iface 166 v) "loop.example/g00522/impl.kind" #[]).run Try.prog w = .ok (.enter 175 #[v]) w := by kernel_rfl
theorem kind_eitherShape (v : Value) (w : World) : (callMethod (.iface 167 v) "loop.example/g00522/impl.kind" #[]).run Try.prog w = .ok (.enter 176 #[v]) w := by kernel_rfl
theorem kind_manyShape (v : Value) (w : World) : (callMethod (.iface 164 v) "loop.example/g00522/impl.kind" #[]).run Try.prog w = .ok (.enter 174 #[v]) w := by kernel_rfl
theorem kind_notShape (v : Value) (w : World) : (callMethod (.iface 168 v) "loop.example/g00522/impl.kind" #[]).run Try.prog w = .ok (.enter 177 #[v]) w := by kernel_rfl
attribute [local go_sem] mk_noText mk_emptyText mk_oneLetter mk_anyLetter mk_thenShape mk_eitherShape mk_manyShape mk_notShape as_noText_noText as_noText_emptyText as_noText_oneLetter as_noText_anyLetter as_noText_thenShape as_noText_eitherShape as_noText_manyShape as_noText_notShape as_emptyText_noText as_emptyText_emptyText as_emptyText_oneLetter as_emptyText_anyLetter as_emptyText_thenShape as_emptyText_eitherShape as_emptyText_manyShape as_emptyText_notShape as_oneLetter_noText as_oneLetter_emptyText as_oneLetter_oneLetter as_oneLetter_anyLetter as_oneLetter_thenShape as_oneLetter_eitherShape as_oneLetter_manyShape as_oneLetter_notShape as_anyLetter_noText as_anyLetter_emptyText as_anyLetter_oneLetter as_anyLetter_anyLetter as_anyLetter_thenShape as_anyLetter_eitherShape as_anyLetter_manyShape as_anyLetter_notShape as_thenShape_noText as_thenShape_emptyText as_thenShape_oneLetter as_thenShape_anyLetter as_thenShape_thenShape as_thenShape_eitherShape as_thenShape_manyShape as_thenShape_notShape as_eitherShape_noText as_eitherShape_emptyText as_eitherShape_oneLetter as_eitherShape_anyLetter as_eitherShape_thenShape as_eitherShape_eitherShape as_eitherShape_manyShape as_eitherShape_notShape as_manyShape_noText as_manyShape_emptyText as_manyShape_oneLetter as_manyShape_anyLetter as_manyShape_thenShape as_manyShape_eitherShape as_manyShape_manyShape as_manyShape_notShape as_notShape_noText as_notShape_emptyText as_notShape_oneLetter as_notShape_anyLetter as_notShape_thenShape as_notShape_eitherShape as_notShape_manyShape as_notShape_notShape kind_noText kind_emptyText kind_oneLetter kind_anyLetter kind_thenShape kind_eitherShape kind_manyShape kind_notShape
set_option maxRecDepth 100000 in
theorem kindc_noText (cs : Array Value) (w : World) : Calls Try.prog 180 #[.agg cs] w fun e w' => e = .returned (.int .i64 1) ∧ Below w.heap.size w w' := by
  go_enter Try.func180, Try.ntmps180
  go_wp2
  go_ret
  exact ⟨rfl, (Below.refl _ _).alloc (Nat.le_refl _) _⟩
set_option maxRecDepth 100000 in
theorem kindc_emptyText (cs : Array Value) (w : World) : Calls Try.prog 173 #[.agg cs] w fun e w' => e = .returned (.int .i64 2) ∧ Below w.heap.size w w' := by
  go_enter Try.func173, Try.ntmps173
  go_wp2
  go_ret
  exact ⟨rfl, (Below.refl _ _).alloc (Nat.le_refl _) _⟩
set_option maxRecDepth 100000 in
theorem kindc_oneLetter (cs : Array Value) (w : World) : Calls Try.prog 178 #[.agg cs] w fun e w' => e = .returned (.int .i64 3) ∧ Below w.heap.size w w' := by
  go_enter Try.func178, Try.ntmps178
  go_wp2
  go_ret
  exact ⟨rfl, (Below.refl _ _).alloc (Nat.le_refl _) _⟩
set_option maxRecDepth 100000 in
theorem kindc_anyLetter (cs : Array Value) (w : World) : Calls Try.prog 179 #[.agg cs] w fun e w' => e = .returned (.int .i64 4) ∧ Below w.heap.size w w' := by
  go_enter Try.func179, Try.ntmps179
  go_wp2
  go_ret
  exact ⟨rfl, (Below.refl _ _).alloc (Nat.le_refl _) _⟩
set_option maxRecDepth 100000 in
theorem kindc_thenShape (cs : Array Value) (w : World) : Calls Try.prog 175 #[.agg cs] w fun e w' => e = .returned (.int .i64 5) ∧ Below w.heap.size w w' := by
  go_enter Try.func175, Try.ntmps175
  go_wp2
  go_ret
  exact ⟨rfl, (Below.refl _ _).alloc (Nat.le_refl _) _⟩
set_option maxRecDepth 100000 in
theorem kindc_eitherShape (cs : Array Value) (w : World) : Calls Try.prog 176 #[.agg cs] w fun e w' => e = .returned (.int .i64 6) ∧ Below w.heap.size w w' := by
  go_enter Try.func176, Try.ntmps176
  go_wp2
  go_ret
  exact ⟨rfl, (Below.refl _ _).alloc (Nat.le_refl _) _⟩
set_option maxRecDepth 100000 in
theorem kindc_manyShape (cs : Array Value) (w : World) : Calls Try.prog 174 #[.agg cs] w fun e w' => e = .returned (.int .i64 7) ∧ Below w.heap.size w w' := by
  go_enter Try.func174, Try.ntmps174
  go_wp2
  go_ret
  exact ⟨rfl, (Below.refl _ _).alloc (Nat.le_refl _) _⟩
set_option maxRecDepth 100000 in
theorem kindc_notShape (cs : Array Value) (w : World) : Calls Try.prog 177 #[.agg cs] w fun e w' => e = .returned (.int .i64 8) ∧ Below w.heap.size w w' := by
  go_enter Try.func177, Try.ntmps177
  go_wp2
  go_ret
  exact ⟨rfl, (Below.refl _ _).alloc (Nat.le_refl _) _⟩
/-- What the call does at a shape. -/
def PC (x : Sh) : Prop := ∀ (base : Nat) (v : Value) (l : List Pr) (w : World), OwP w base v l → base ≤ w.heap.size → l.length + sz x ≤ 100000000 → Calls Try.prog 94 #[sv x, v] w fun e w' => RetF w base v (flat x l) e w'
set_option maxRecDepth 100000 in
set_option maxHeartbeats 4000000 in
theorem partsOf_none : PC .none := by
  intro base v l w ho hb hl
  obtain ⟨i1, hi1, hy0, hy1, hy2⟩ := info_parts info_part
  obtain ⟨a, cap, rfl⟩ := own_shapeT ho
  simp only [sz] at hl
  have HO := hide ho
  clear ho
  show Calls Try.prog 94 #[.iface 175 (.agg #[]), .slice a l.length cap] w _
  go_enter Try.func94, Try.ntmps94
  go_wp2_with fail
  refine (kindc_noText _ _).mono ?_
  rintro e w1 ⟨rfl, hb1⟩
  have hz1 : base ≤ w1.heap.size := Nat.le_trans hb hb1.size
  have O1 := hide (own_belowT HO.out hb1)
  have G1 := hide (grown_below0 hb1 (Value.slice a l.length cap).ownBlock)
  have HLT : Hid (∀ g, (Value.slice a l.length cap).ownBlock = some g → g < w.heap.size) := hide (fun g hg => own_at_lt HO.out hg)
  have HSZ := hide hb1.size
  clear hb1
  have O2 := hide (O1.out.alloc (.cells #[.int .i64 1, .string ByteArray.empty, .int .i64 0, .int .i64 0] 116))
  have G2 := hide (grown_trans G1.out (grown_alloc w1 (.cells #[.int .i64 1, .string ByteArray.empty, .int .i64 0, .int .i64 0] 116) (Value.slice a l.length cap).ownBlock) (fun g hg => .inl hg))
  go_wp2_with (first
    | (at_builtin; refine wpList_append_own_at _ rfl _ _ 52 rfl base 116 i1 (.agg #[.int .i64 0, .string ByteArray.empty, .int .i64 0, .int .i64 0]) 4 40 Try.underlying52 hi1 hy0 hy1 hy2 rfl (by decide) _ _ _ rfl (O2.out.alloc _) ⟨w1.heap.size + 1, 0, none⟩ 1 1 [.int .i64 1, .string ByteArray.empty, .int .i64 0, .int .i64 0] rfl rfl (cell_four_newP _ _ (by first | rfl | simp) _ _ _ _ _) (four_one _ _ _ _) (by unfold maxLen; omega) (by omega) (by simp; omega) ?_)
    | go_in)
  intro v6 w6 h6 g6 _ hat
  have HR := hide (fin_ret (p := ⟨1, ByteArray.empty, 0, 0⟩) G2.out (fun g hg => .inl hg) h6 g6 (hat.imp id (fun h => ⟨_, h, by first | exact Nat.le_refl _ | (simp; done) | (simp; omega)⟩)))
  obtain ⟨a6, c6, rfl⟩ := own_shapeT h6
  clear h6 g6 hat
  go_wp2
  go_ret
  exact HR.out
set_option maxRecDepth 100000 in
set_option maxHeartbeats 4000000 in
theorem partsOf_empty : PC .empty := by
  intro base v l w ho hb hl
  obtain ⟨i1, hi1, hy0, hy1, hy2⟩ := info_parts info_part
  obtain ⟨a, cap, rfl⟩ := own_shapeT ho
  simp only [sz] at hl
  have HO := hide ho
  clear ho
  show Calls Try.prog 94 #[.iface 162 (.agg #[]), .slice a l.length cap] w _
  go_enter Try.func94, Try.ntmps94
  go_wp2_with fail
  refine (kindc_emptyText _ _).mono ?_
  rintro e w1 ⟨rfl, hb1⟩
  have hz1 : base ≤ w1.heap.size := Nat.le_trans hb hb1.size
  have O1 := hide (own_belowT HO.out hb1)
  have G1 := hide (grown_below0 hb1 (Value.slice a l.length cap).ownBlock)
  have HLT : Hid (∀ g, (Value.slice a l.length cap).ownBlock = some g → g < w.heap.size) := hide (fun g hg => own_at_lt HO.out hg)
  have HSZ := hide hb1.size
  clear hb1
  have O2 := hide (O1.out.alloc (.cells #[.int .i64 2, .string ByteArray.empty, .int .i64 0, .int .i64 0] 116))
  have G2 := hide (grown_trans G1.out (grown_alloc w1 (.cells #[.int .i64 2, .string ByteArray.empty, .int .i64 0, .int .i64 0] 116) (Value.slice a l.length cap).ownBlock) (fun g hg => .inl hg))
  go_wp2_with (first
    | (at_builtin; refine wpList_append_own_at _ rfl _ _ 52 rfl base 116 i1 (.agg #[.int .i64 0, .string ByteArray.empty, .int .i64 0, .int .i64 0]) 4 40 Try.underlying52 hi1 hy0 hy1 hy2 rfl (by decide) _ _ _ rfl (O2.out.alloc _) ⟨w1.heap.size + 1, 0, none⟩ 1 1 [.int .i64 2, .string ByteArray.empty, .int .i64 0, .int .i64 0] rfl rfl (cell_four_newP _ _ (by first | rfl | simp) _ _ _ _ _) (four_one _ _ _ _) (by unfold maxLen; omega) (by omega) (by simp; omega) ?_)
    | go_in)
  intro v6 w6 h6 g6 _ hat
  have HR := hide (fin_ret (p := ⟨2, ByteArray.empty, 0, 0⟩) G2.out (fun g hg => .inl hg) h6 g6 (hat.imp id (fun h => ⟨_, h, by first | exact Nat.le_refl _ | (simp; done) | (simp; omega)⟩)))
  obtain ⟨a6, c6, rfl⟩ := own_shapeT h6
  clear h6 g6 hat
  go_wp2
  go_ret
  exact HR.out
set_option maxRecDepth 100000 in
set_option maxHeartbeats 4000000 in
theorem partsOf_letter (c : Int) (hc : 97 ≤ c ∧ c ≤ 122) : PC (.letter c) := by
  intro base v l w ho hb hl
  obtain ⟨i1, hi1, hy0, hy1, hy2⟩ := info_parts info_part
  obtain ⟨a, cap, rfl⟩ := own_shapeT ho
  simp only [sz] at hl
  have HE := hide (enc_letter hc)
  obtain ⟨h1, h2⟩ := hc
  have HO := hide ho
  clear ho
  show Calls Try.prog 94 #[.iface 170 (.agg #[.int .u8 c]), .slice a l.length cap] w _
  go_enter Try.func94, Try.ntmps94
  go_wp2_with fail
  refine (kindc_oneLetter _ _).mono ?_
  rintro e w1 ⟨rfl, hb1⟩
  have hz1 : base ≤ w1.heap.size := Nat.le_trans hb hb1.size
  have O1 := hide (own_belowT HO.out hb1)
  have G1 := hide (grown_below0 hb1 (Value.slice a l.length cap).ownBlock)
  have HLT : Hid (∀ g, (Value.slice a l.length cap).ownBlock = some g → g < w.heap.size) := hide (fun g hg => own_at_lt HO.out hg)
  have HSZ := hide hb1.size
  clear hb1
  have O2 := hide ((O1.out.alloc (.cells #[.int .i64 3, .string (Utf8.encode c), .int .i64 0, .int .i64 0] 116)).alloc (.cells #[.int .u8 c] 170))
  have G2 := hide (grown_trans (grown_trans G1.out (grown_alloc w1 (.cells #[.int .i64 3, .string (Utf8.encode c), .int .i64 0, .int .i64 0] 116) (Value.slice a l.length cap).ownBlock) (fun g hg => .inl hg)) (grown_alloc _ (.cells #[.int .u8 c] 170) (Value.slice a l.length cap).ownBlock) (fun g hg => .inl hg))
  go_wp2_with (first
    | (at_builtin; refine wpList_append_own_at _ rfl _ _ 52 rfl base 116 i1 (.agg #[.int .i64 0, .string ByteArray.empty, .int .i64 0, .int .i64 0]) 4 40 Try.underlying52 hi1 hy0 hy1 hy2 rfl (by decide) _ _ _ rfl (O2.out.alloc _) ⟨w1.heap.size + 1 + 1, 0, none⟩ 1 1 [.int .i64 3, .string ((Utf8.encode c)), .int .i64 0, .int .i64 0] rfl rfl (cell_four_newP _ _ (by first | rfl | simp) _ _ _ _ _) (four_one _ _ _ _) (by unfold maxLen; omega) (by omega) (by simp; omega) ?_)
    | go_in)
  intro v6 w6 h6 g6 _ hat
  have HR := hide (fin_ret (p := ⟨3, (Utf8.encode c), 0, 0⟩) G2.out (fun g hg => .inl hg) h6 g6 (hat.imp id (fun h => ⟨_, h, by first | exact Nat.le_refl _ | (simp; done) | (simp; omega)⟩)))
  obtain ⟨a6, c6, rfl⟩ := own_shapeT h6
  clear h6 g6 hat
  go_wp2
  go_ret
  have h9 := HR.out
  rw [HE.out] at h9
  exact h9
set_option maxRecDepth 100000 in
set_option maxHeartbeats 4000000 in
theorem partsOf_any' : PC .any := by
  intro base v l w ho hb hl
  obtain ⟨i1, hi1, hy0, hy1, hy2⟩ := info_parts info_part
  obtain ⟨a, cap, rfl⟩ := own_shapeT ho
  simp only [sz] at hl
  have HO := hide ho
  clear ho
  show Calls Try.prog 94 #[.iface 173 (.agg #[]), .slice a l.length cap] w _
  go_enter Try.func94, Try.ntmps94
  go_wp2_with fail
  refine (kindc_anyLetter _ _).mono ?_
  rintro e w1 ⟨rfl, hb1⟩
  have hz1 : base ≤ w1.heap.size := Nat.le_trans hb hb1.size
  have O1 := hide (own_belowT HO.out hb1)
  have G1 := hide (grown_below0 hb1 (Value.slice a l.length cap).ownBlock)
  have HLT : Hid (∀ g, (Value.slice a l.length cap).ownBlock = some g → g < w.heap.size) := hide (fun g hg => own_at_lt HO.out hg)
  have HSZ := hide hb1.size
  clear hb1
  have O2 := hide (O1.out.alloc (.cells #[.int .i64 4, .string ByteArray.empty, .int .i64 0, .int .i64 0] 116))
  have G2 := hide (grown_trans G1.out (grown_alloc w1 (.cells #[.int .i64 4, .string ByteArray.empty, .int .i64 0, .int .i64 0] 116) (Value.slice a l.length cap).ownBlock) (fun g hg => .inl hg))
  go_wp2_with (first
    | (at_builtin; refine wpList_append_own_at _ rfl _ _ 52 rfl base 116 i1 (.agg #[.int .i64 0, .string ByteArray.empty, .int .i64 0, .int .i64 0]) 4 40 Try.underlying52 hi1 hy0 hy1 hy2 rfl (by decide) _ _ _ rfl (O2.out.alloc _) ⟨w1.heap.size + 1, 0, none⟩ 1 1 [.int .i64 4, .string ByteArray.empty, .int .i64 0, .int .i64 0] rfl rfl (cell_four_newP _ _ (by first | rfl | simp) _ _ _ _ _) (four_one _ _ _ _) (by unfold maxLen; omega) (by omega) (by simp; omega) ?_)
    | go_in)
  intro v6 w6 h6 g6 _ hat
  have HR := hide (fin_ret (p := ⟨4, ByteArray.empty, 0, 0⟩) G2.out (fun g hg => .inl hg) h6 g6 (hat.imp id (fun h => ⟨_, h, by first | exact Nat.le_refl _ | (simp; done) | (simp; omega)⟩)))
  obtain ⟨a6, c6, rfl⟩ := own_shapeT h6
  clear h6 g6 hat
  go_wp2
  go_ret
  exact HR.out
/-- What the call on two shapes does. -/
def RetF2 (w : World) (base : Nat) (v : Value) (a b : Sh) (l : List Pr) (e : Ending) (w' : World) : Prop :=
  ∃ v', e = .returned (.tuple #[v', .int .i64 (((flat a l).length : Int) - 1), .int .i64 (((flat b (flat a l)).length : Int) - 1)]) ∧ OwP w' base v' (flat b (flat a l)) ∧ w.grownBy w' v.ownBlock ∧ ∀ g, v'.ownBlock = some g → v.ownBlock = some g ∨ w.heap.size ≤ g
set_option maxRecDepth 100000 in
set_option maxHeartbeats 4000000 in
theorem partsOfTwo_any (a b : Sh) (IA : PC a) (IB : PC b) (base : Nat) (v : Value) (l : List Pr) (w : World) (ho : OwP w base v l) (hb : base ≤ w.heap.size) (hl : l.length + sz a + sz b ≤ 100000000) :
    Calls Try.prog 132 #[sv a, sv b, v] w fun e w' => RetF2 w base v a b l e w' := by
  have la := flat_len a l
  have lb := flat_len b (flat a l)
  have pa := sz_pos a
  have pb := sz_pos b
  have C1 := hide (IA base v l w ho hb (by omega))
  have C2 := hide (fun v w ho hb => IB base v (flat a l) w ho hb (by omega))
  have HL1 : Hid (0 ≤ ((flat a l).length : Int) - 1 ∧ ((flat a l).length : Int) ≤ 100000000) := hide (by omega)
  have HL2 : Hid (0 ≤ ((flat b (flat a l)).length : Int) - 1 ∧ ((flat b (flat a l)).length : Int) ≤ 100000000) := hide (by omega)
  clear la lb pa pb IA IB hl
  obtain ⟨x, cap, rfl⟩ := own_shapeT ho
  clear ho
  go_enter Try.func132, Try.ntmps132
  go_wp2_with fail
  refine C1.out.mono ?_
  rintro e w1 ⟨v1, rfl, o1, g1, k1⟩
  have O1 := hide o1
  have G1 := hide g1
  have K1 := hide k1
  obtain ⟨x1, c1, rfl⟩ := own_shapeT o1
  clear o1 g1 k1
  go_wp2_with fail
  refine (C2.out _ _ O1.out (Nat.le_trans hb G1.out.size)).mono ?_
  rintro e w2 ⟨v2, rfl, o2, g2, k2⟩
  have O2 := hide o2
  have G2 := hide (grown_trans G1.out g2 K1.out)
  have K2 : Hid (∀ g, v2.ownBlock = some g → (Value.slice x l.length cap).ownBlock = some g ∨ w.heap.size ≤ g) := hide (fun g hg => by
    rcases k2 g hg with h | h
    · exact K1.out g h
    · exact .inr (Nat.le_trans G1.out.size h))
  obtain ⟨x2, c2, rfl⟩ := own_shapeT o2
  clear o2 g2 k2
  obtain ⟨h10, h11⟩ := HL1.out
  obtain ⟨h20, h21⟩ := HL2.out
  go_wp2
  go_ret3
  exact ⟨_, rfl, O2.out, G2.out, K2.out⟩
set_option maxRecDepth 100000 in
set_option maxHeartbeats 4000000 in
theorem partsOf_seq (A B : Sh) (IA : PC A) (IB : PC B) : PC (.seq A B) := by
  intro base v l w ho hb hl
  obtain ⟨i1, hi1, hy0, hy1, hy2⟩ := info_parts info_part
  obtain ⟨a, cap, rfl⟩ := own_shapeT ho
  simp only [sz] at hl
  have HO := hide ho
  clear ho
  show Calls Try.prog 94 #[.iface 166 (.agg #[sv A, sv B]), .slice a l.length cap] w _
  go_enter Try.func94, Try.ntmps94
  go_wp2_with fail
  refine (kindc_thenShape _ _).mono ?_
  rintro e w1 ⟨rfl, hb1⟩
  have hz1 : base ≤ w1.heap.size := Nat.le_trans hb hb1.size
  have O1 := hide (own_belowT HO.out hb1)
  have G1 := hide (grown_below0 hb1 (Value.slice a l.length cap).ownBlock)
  have HLT : Hid (∀ g, (Value.slice a l.length cap).ownBlock = some g → g < w.heap.size) := hide (fun g hg => own_at_lt HO.out hg)
  have HSZ := hide hb1.size
  clear hb1
  have la := flat_len A l
  have lb := flat_len B (flat A l)
  have pA := sz_pos A
  have pB := sz_pos B
  have HX2 : Hid (PX ((w1.alloc (.cells #[.int .i64 5, .string ByteArray.empty, .int .i64 0, .int .i64 0] 116)).alloc (.cells #[sv A, sv B] 166)) w1.heap.size ⟨5, ByteArray.empty, 0, 0⟩) := hide ((PX.newAt _ _ ⟨5, ByteArray.empty, 0, 0⟩ rfl).below ((Below.refl _ _).alloc (Nat.le_refl _) _))
  have O2 := hide ((O1.out.alloc (.cells #[.int .i64 5, .string ByteArray.empty, .int .i64 0, .int .i64 0] 116)).alloc (.cells #[sv A, sv B] 166))
  have G2 := hide (grown_trans (grown_trans G1.out (grown_alloc w1 (.cells #[.int .i64 5, .string ByteArray.empty, .int .i64 0, .int .i64 0] 116) (Value.slice a l.length cap).ownBlock) (fun g hg => .inl hg)) (grown_alloc _ (.cells #[sv A, sv B] 166) (Value.slice a l.length cap).ownBlock) (fun g hg => .inl hg))
  have HZ2 : Hid (((w1.alloc (.cells #[.int .i64 5, .string ByteArray.empty, .int .i64 0, .int .i64 0] 116)).alloc (.cells #[sv A, sv B] 166)).heap.size = w1.heap.size + 2) := by refine hide ?_; simp
  have C2 := hide (partsOfTwo_any A B IA IB base _ l _ O2.out (by have := HZ2.out; omega) (by omega))
  have hBlen : (flat B (flat A l)).length + 1 ≤ 100000000 := by omega
  have HLA := hide la
  have HLB := hide lb
  clear la lb pA pB IA IB
  go_wp2_with fail
  refine C2.out.mono ?_
  rintro e w3 ⟨v3, rfl, o3, g3, k3⟩
  have hx3 := HX2.out.grown g3 (fun e => by have h1 := HLT.out _ e; have h2 := HSZ.out; omega)
  have K3 : Hid (∀ g, v3.ownBlock = some g → ((Value.slice a l.length cap).ownBlock = some g ∨ w.heap.size ≤ g) ∧ g ≠ w1.heap.size) := hide (fun g hg => by
    have h2 := HSZ.out
    have h3 := HZ2.out
    rcases k3 g hg with h | h
    · have h1 := HLT.out g h
      exact ⟨.inl h, by omega⟩
    · exact ⟨.inr (by omega), by omega⟩)
  have G3 := hide (grown_trans G2.out g3 (fun g hg => .inl hg))
  obtain ⟨x3, c3, rfl⟩ := own_shapeT o3
  obtain ⟨qa, hqa⟩ : ∃ q : Int, q = ((flat A l).length : Int) - 1 := ⟨_, rfl⟩
  obtain ⟨qb, hqb⟩ : ∃ q : Int, q = ((flat B (flat A l)).length : Int) - 1 := ⟨_, rfl⟩
  rw [← hqa, ← hqb]
  have ca := hx3.at.a
  have cb := hx3.at.b
  have fa := hx3.frozen 2
  have hx4 := hx3.setA qa
  have cb4 := hx4.at.b
  have fb4 := hx4.frozen 3
  have hx5 := hx4.setB qb
  have d0 := hx5.at.k
  have d1 := hx5.at.t
  have d2 := hx5.at.a
  have d3 := hx5.at.b
  simp only [Nat.zero_add] at ca cb cb4 d1 d2 d3
  have G5 := hide (grown_trans (grown_trans G3.out (grown_set w3 w1.heap.size 2 (.int .i64 qa)) (fun g hg => by cases hg; exact .inr HSZ.out)) (grown_set _ w1.heap.size 3 (.int .i64 qb)) (fun g hg => by cases hg; exact .inr HSZ.out))
  have O5 : Hid (OwP ((w3.setCell ⟨w1.heap.size, 2, none⟩ (.int .i64 qa)).setCell ⟨w1.heap.size, 3, none⟩ (.int .i64 qb)) base (.slice x3 (flat B (flat A l)).length c3) (flat B (flat A l))) := hide
    (OwP.grown (OwP.grown o3 (grown_set w3 w1.heap.size 2 (.int .i64 qa)) (fun g hg e => by cases e; exact (K3.out _ hg).2 rfl)) (grown_set _ w1.heap.size 3 (.int .i64 qb)) (fun g hg e => by cases e; exact (K3.out _ hg).2 rfl))
  have HQ : Hid (qa = ((flat A l).length : Int) - 1 ∧ qb = ((flat B (flat A l)).length : Int) - 1) := hide ⟨hqa, hqb⟩
  have hbz : base ≤ w3.heap.size := by have := g3.size; have := HZ2.out; omega
  clear hx3 hx4 hx5 g3 k3 o3 hqa hqb
  go_wp2_with (first
    | (at_builtin; refine wpList_append_own_at _ rfl _ _ 52 rfl base 116 i1 (.agg #[.int .i64 0, .string ByteArray.empty, .int .i64 0, .int .i64 0]) 4 40 Try.underlying52 hi1 hy0 hy1 hy2 rfl (by decide) _ _ _ rfl (O5.out.alloc _) ⟨w3.heap.size, 0, none⟩ 1 1 [.int .i64 5, .string ByteArray.empty, .int .i64 qa, .int .i64 qb] rfl rfl (cell_four_newP _ _ (by first | rfl | simp) _ _ _ _ _) (four_one _ _ _ _) (by unfold maxLen; omega) (by omega) (by simp; omega) ?_)
    | go_in)
  intro v6 w6 h6 g6 _ hat
  have HR := hide (fin_ret (p := ⟨5, ByteArray.empty, qa, qb⟩) G5.out (fun g hg => (K3.out g hg).1) h6 g6 (hat.imp id (fun h => ⟨_, h, by first | exact Nat.le_refl _ | (simp; done) | (simp; omega)⟩)))
  obtain ⟨a6, c6, rfl⟩ := own_shapeT h6
  clear h6 g6 hat
  go_wp2
  go_ret
  have h9 := HR.out
  rw [HQ.out.1, HQ.out.2] at h9
  exact h9
set_option maxRecDepth 100000 in
set_option maxHeartbeats 4000000 in
theorem partsOf_alt (A B : Sh) (IA : PC A) (IB : PC B) : PC (.alt A B) := by
  intro base v l w ho hb hl
  obtain ⟨i1, hi1, hy0, hy1, hy2⟩ := info_parts info_part
  obtain ⟨a, cap, rfl⟩ := own_shapeT ho
  simp only [sz] at hl
  have HO := hide ho
  clear ho
  show Calls Try.prog 94 #[.iface 167 (.agg #[sv A, sv B]), .slice a l.length cap] w _
  go_enter Try.func94, Try.ntmps94
  go_wp2_with fail
  refine (kindc_eitherShape _ _).mono ?_
  rintro e w1 ⟨rfl, hb1⟩
  have hz1 : base ≤ w1.heap.size := Nat.le_trans hb hb1.size
  have O1 := hide (own_belowT HO.out hb1)
  have G1 := hide (grown_below0 hb1 (Value.slice a l.length cap).ownBlock)
  have HLT : Hid (∀ g, (Value.slice a l.length cap).ownBlock = some g → g < w.heap.size) := hide (fun g hg => own_at_lt HO.out hg)
  have HSZ := hide hb1.size
  clear hb1
  have la := flat_len A l
  have lb := flat_len B (flat A l)
  have pA := sz_pos A
  have pB := sz_pos B
  have HX2 : Hid (PX ((w1.alloc (.cells #[.int .i64 6, .string ByteArray.empty, .int .i64 0, .int .i64 0] 116)).alloc (.cells #[sv A, sv B] 167)) w1.heap.size ⟨6, ByteArray.empty, 0, 0⟩) := hide ((PX.newAt _ _ ⟨6, ByteArray.empty, 0, 0⟩ rfl).below ((Below.refl _ _).alloc (Nat.le_refl _) _))
  have O2 := hide ((O1.out.alloc (.cells #[.int .i64 6, .string ByteArray.empty, .int .i64 0, .int .i64 0] 116)).alloc (.cells #[sv A, sv B] 167))
  have G2 := hide (grown_trans (grown_trans G1.out (grown_alloc w1 (.cells #[.int .i64 6, .string ByteArray.empty, .int .i64 0, .int .i64 0] 116) (Value.slice a l.length cap).ownBlock) (fun g hg => .inl hg)) (grown_alloc _ (.cells #[sv A, sv B] 167) (Value.slice a l.length cap).ownBlock) (fun g hg => .inl hg))
  have HZ2 : Hid (((w1.alloc (.cells #[.int .i64 6, .string ByteArray.empty, .int .i64 0, .int .i64 0] 116)).alloc (.cells #[sv A, sv B] 167)).heap.size = w1.heap.size + 2) := by refine hide ?_; simp
  have C2 := hide (partsOfTwo_any A B IA IB base _ l _ O2.out (by have := HZ2.out; omega) (by omega))
  have hBlen : (flat B (flat A l)).length + 1 ≤ 100000000 := by omega
  have HLA := hide la
  have HLB := hide lb
  clear la lb pA pB IA IB
  go_wp2_with fail
  refine C2.out.mono ?_
  rintro e w3 ⟨v3, rfl, o3, g3, k3⟩
  have hx3 := HX2.out.grown g3 (fun e => by have h1 := HLT.out _ e; have h2 := HSZ.out; omega)
  have K3 : Hid (∀ g, v3.ownBlock = some g → ((Value.slice a l.length cap).ownBlock = some g ∨ w.heap.size ≤ g) ∧ g ≠ w1.heap.size) := hide (fun g hg => by
    have h2 := HSZ.out
    have h3 := HZ2.out
    rcases k3 g hg with h | h
    · have h1 := HLT.out g h
      exact ⟨.inl h, by omega⟩
    · exact ⟨.inr (by omega), by omega⟩)
  have G3 := hide (grown_trans G2.out g3 (fun g hg => .inl hg))
  obtain ⟨x3, c3, rfl⟩ := own_shapeT o3
  obtain ⟨qa, hqa⟩ : ∃ q : Int, q = ((flat A l).length : Int) - 1 := ⟨_, rfl⟩
  obtain ⟨qb, hqb⟩ : ∃ q : Int, q = ((flat B (flat A l)).length : Int) - 1 := ⟨_, rfl⟩
  rw [← hqa, ← hqb]
  have ca := hx3.at.a
  have cb := hx3.at.b
  have fa := hx3.frozen 2
  have hx4 := hx3.setA qa
  have cb4 := hx4.at.b
  have fb4 := hx4.frozen 3
  have hx5 := hx4.setB qb
  have d0 := hx5.at.k
  have d1 := hx5.at.t
  have d2 := hx5.at.a
  have d3 := hx5.at.b
  simp only [Nat.zero_add] at ca cb cb4 d1 d2 d3
  have G5 := hide (grown_trans (grown_trans G3.out (grown_set w3 w1.heap.size 2 (.int .i64 qa)) (fun g hg => by cases hg; exact .inr HSZ.out)) (grown_set _ w1.heap.size 3 (.int .i64 qb)) (fun g hg => by cases hg; exact .inr HSZ.out))
  have O5 : Hid (OwP ((w3.setCell ⟨w1.heap.size, 2, none⟩ (.int .i64 qa)).setCell ⟨w1.heap.size, 3, none⟩ (.int .i64 qb)) base (.slice x3 (flat B (flat A l)).length c3) (flat B (flat A l))) := hide
    (OwP.grown (OwP.grown o3 (grown_set w3 w1.heap.size 2 (.int .i64 qa)) (fun g hg e => by cases e; exact (K3.out _ hg).2 rfl)) (grown_set _ w1.heap.size 3 (.int .i64 qb)) (fun g hg e => by cases e; exact (K3.out _ hg).2 rfl))
  have HQ : Hid (qa = ((flat A l).length : Int) - 1 ∧ qb = ((flat B (flat A l)).length : Int) - 1) := hide ⟨hqa, hqb⟩
  have hbz : base ≤ w3.heap.size := by have := g3.size; have := HZ2.out; omega
  clear hx3 hx4 hx5 g3 k3 o3 hqa hqb
  go_wp2_with (first
    | (at_builtin; refine wpList_append_own_at _ rfl _ _ 52 rfl base 116 i1 (.agg #[.int .i64 0, .string ByteArray.empty, .int .i64 0, .int .i64 0]) 4 40 Try.underlying52 hi1 hy0 hy1 hy2 rfl (by decide) _ _ _ rfl (O5.out.alloc _) ⟨w3.heap.size, 0, none⟩ 1 1 [.int .i64 6, .string ByteArray.empty, .int .i64 qa, .int .i64 qb] rfl rfl (cell_four_newP _ _ (by first | rfl | simp) _ _ _ _ _) (four_one _ _ _ _) (by unfold maxLen; omega) (by omega) (by simp; omega) ?_)
    | go_in)
  intro v6 w6 h6 g6 _ hat
  have HR := hide (fin_ret (p := ⟨6, ByteArray.empty, qa, qb⟩) G5.out (fun g hg => (K3.out g hg).1) h6 g6 (hat.imp id (fun h => ⟨_, h, by first | exact Nat.le_refl _ | (simp; done) | (simp; omega)⟩)))
  obtain ⟨a6, c6, rfl⟩ := own_shapeT h6
  clear h6 g6 hat
  go_wp2
  go_ret
  have h9 := HR.out
  rw [HQ.out.1, HQ.out.2] at h9
  exact h9
set_option maxRecDepth 100000 in
set_option maxHeartbeats 4000000 in
theorem partsOf_many (A : Sh) (IA : PC A) : PC (.many A) := by
  intro base v l w ho hb hl
  obtain ⟨i1, hi1, hy0, hy1, hy2⟩ := info_parts info_part
  obtain ⟨a, cap, rfl⟩ := own_shapeT ho
  simp only [sz] at hl
  have HO := hide ho
  clear ho
  show Calls Try.prog 94 #[.iface 164 (.agg #[sv A]), .slice a l.length cap] w _
  go_enter Try.func94, Try.ntmps94
  go_wp2_with fail
  refine (kindc_manyShape _ _).mono ?_
  rintro e w1 ⟨rfl, hb1⟩
  have hz1 : base ≤ w1.heap.size := Nat.le_trans hb hb1.size
  have O1 := hide (own_belowT HO.out hb1)
  have G1 := hide (grown_below0 hb1 (Value.slice a l.length cap).ownBlock)
  have HLT : Hid (∀ g, (Value.slice a l.length cap).ownBlock = some g → g < w.heap.size) := hide (fun g hg => own_at_lt HO.out hg)
  have HSZ := hide hb1.size
  clear hb1
  have la := flat_len A l
  have pA := sz_pos A
  have HX2 : Hid (PX ((w1.alloc (.cells #[.int .i64 7, .string ByteArray.empty, .int .i64 0, .int .i64 0] 116)).alloc (.cells #[sv A] 164)) w1.heap.size ⟨7, ByteArray.empty, 0, 0⟩) := hide ((PX.newAt _ _ ⟨7, ByteArray.empty, 0, 0⟩ rfl).below ((Below.refl _ _).alloc (Nat.le_refl _) _))
  have O2 := hide ((O1.out.alloc (.cells #[.int .i64 7, .string ByteArray.empty, .int .i64 0, .int .i64 0] 116)).alloc (.cells #[sv A] 164))
  have G2 := hide (grown_trans (grown_trans G1.out (grown_alloc w1 (.cells #[.int .i64 7, .string ByteArray.empty, .int .i64 0, .int .i64 0] 116) (Value.slice a l.length cap).ownBlock) (fun g hg => .inl hg)) (grown_alloc _ (.cells #[sv A] 164) (Value.slice a l.length cap).ownBlock) (fun g hg => .inl hg))
  have HZ2 : Hid (((w1.alloc (.cells #[.int .i64 7, .string ByteArray.empty, .int .i64 0, .int .i64 0] 116)).alloc (.cells #[sv A] 164)).heap.size = w1.heap.size + 2) := by refine hide ?_; simp
  have C2 := hide (IA base _ l _ O2.out (by have := HZ2.out; omega) (by omega))
  have hBlen : (flat A l).length + 1 ≤ 100000000 := by omega
  have hA1 : 1 ≤ ((flat A l).length : Int) := by omega
  have hA2 : ((flat A l).length : Int) ≤ 100000000 := by omega
  clear la pA IA
  go_wp2_with fail
  refine C2.out.mono ?_
  rintro e w3 ⟨v3, rfl, o3, g3, k3⟩
  have hx3 := HX2.out.grown g3 (fun e => by have h1 := HLT.out _ e; have h2 := HSZ.out; omega)
  have K3 : Hid (∀ g, v3.ownBlock = some g → ((Value.slice a l.length cap).ownBlock = some g ∨ w.heap.size ≤ g) ∧ g ≠ w1.heap.size) := hide (fun g hg => by
    have h2 := HSZ.out
    have h3 := HZ2.out
    rcases k3 g hg with h | h
    · have h1 := HLT.out g h
      exact ⟨.inl h, by omega⟩
    · exact ⟨.inr (by omega), by omega⟩)
  have G3 := hide (grown_trans G2.out g3 (fun g hg => .inl hg))
  obtain ⟨x3, c3, rfl⟩ := own_shapeT o3
  have ca := hx3.at.a
  have fa := hx3.frozen 2
  have hx4 := hx3.setA (((flat A l).length : Int) - 1)
  have d0 := hx4.at.k
  have d1 := hx4.at.t
  have d2 := hx4.at.a
  have d3 := hx4.at.b
  simp only [Nat.zero_add] at ca d1 d2 d3
  have G5 := hide (grown_trans G3.out (grown_set w3 w1.heap.size 2 (.int .i64 (((flat A l).length : Int) - 1))) (fun g hg => by cases hg; exact .inr HSZ.out))
  have O5 : Hid (OwP (w3.setCell ⟨w1.heap.size, 2, none⟩ (.int .i64 (((flat A l).length : Int) - 1))) base (.slice x3 (flat A l).length c3) (flat A l)) := hide
    (OwP.grown o3 (grown_set w3 w1.heap.size 2 (.int .i64 (((flat A l).length : Int) - 1))) (fun g hg e => by cases e; exact (K3.out _ hg).2 rfl))
  have hbz : base ≤ w3.heap.size := by have := g3.size; have := HZ2.out; omega
  clear hx3 hx4 g3 k3 o3
  go_wp2_with (first
    | (at_builtin; refine wpList_append_own_at _ rfl _ _ 52 rfl base 116 i1 (.agg #[.int .i64 0, .string ByteArray.empty, .int .i64 0, .int .i64 0]) 4 40 Try.underlying52 hi1 hy0 hy1 hy2 rfl (by decide) _ _ _ rfl (O5.out.alloc _) ⟨w3.heap.size, 0, none⟩ 1 1 [.int .i64 7, .string ByteArray.empty, .int .i64 (((flat A l).length : Int) - 1), .int .i64 0] rfl rfl (cell_four_newP _ _ (by first | rfl | simp) _ _ _ _ _) (four_one _ _ _ _) (by unfold maxLen; omega) (by omega) (by simp; omega) ?_)
    | go_in)
  intro v6 w6 h6 g6 _ hat
  have HR := hide (fin_ret (p := ⟨7, ByteArray.empty, ((flat A l).length : Int) - 1, 0⟩) G5.out (fun g hg => (K3.out g hg).1) h6 g6 (hat.imp id (fun h => ⟨_, h, by first | exact Nat.le_refl _ | (simp; done) | (simp; omega)⟩)))
  obtain ⟨a6, c6, rfl⟩ := own_shapeT h6
  clear h6 g6 hat
  go_wp2
  go_ret
  exact HR.out
set_option maxRecDepth 100000 in
set_option maxHeartbeats 4000000 in
theorem partsOf_inv (A : Sh) (IA : PC A) : PC (.inv A) := by
  intro base v l w ho hb hl
  obtain ⟨i1, hi1, hy0, hy1, hy2⟩ := info_parts info_part
  obtain ⟨a, cap, rfl⟩ := own_shapeT ho
  simp only [sz] at hl
  have HO := hide ho
  clear ho
  show Calls Try.prog 94 #[.iface 168 (.agg #[sv A]), .slice a l.length cap] w _
  go_enter Try.func94, Try.ntmps94
  go_wp2_with fail
  refine (kindc_notShape _ _).mono ?_
  rintro e w1 ⟨rfl, hb1⟩
  have hz1 : base ≤ w1.heap.size := Nat.le_trans hb hb1.size
  have O1 := hide (own_belowT HO.out hb1)
  have G1 := hide (grown_below0 hb1 (Value.slice a l.length cap).ownBlock)
  have HLT : Hid (∀ g, (Value.slice a l.length cap).ownBlock = some g → g < w.heap.size) := hide (fun g hg => own_at_lt HO.out hg)
  have HSZ := hide hb1.size
  clear hb1
  have la := flat_len A l
  have pA := sz_pos A
  have HX2 : Hid (PX ((w1.alloc (.cells #[.int .i64 8, .string ByteArray.empty, .int .i64 0, .int .i64 0] 116)).alloc (.cells #[sv A] 168)) w1.heap.size ⟨8, ByteArray.empty, 0, 0⟩) := hide ((PX.newAt _ _ ⟨8, ByteArray.empty, 0, 0⟩ rfl).below ((Below.refl _ _).alloc (Nat.le_refl _) _))
  have O2 := hide ((O1.out.alloc (.cells #[.int .i64 8, .string ByteArray.empty, .int .i64 0, .int .i64 0] 116)).alloc (.cells #[sv A] 168))
  have G2 := hide (grown_trans (grown_trans G1.out (grown_alloc w1 (.cells #[.int .i64 8, .string ByteArray.empty, .int .i64 0, .int .i64 0] 116) (Value.slice a l.length cap).ownBlock) (fun g hg => .inl hg)) (grown_alloc _ (.cells #[sv A] 168) (Value.slice a l.length cap).ownBlock) (fun g hg => .inl hg))
  have HZ2 : Hid (((w1.alloc (.cells #[.int .i64 8, .string ByteArray.empty, .int .i64 0, .int .i64 0] 116)).alloc (.cells #[sv A] 168)).heap.size = w1.heap.size + 2) := by refine hide ?_; simp
  have C2 := hide (IA base _ l _ O2.out (by have := HZ2.out; omega) (by omega))
  have hBlen : (flat A l).length + 1 ≤ 100000000 := by omega
  have hA1 : 1 ≤ ((flat A l).length : Int) := by omega
  have hA2 : ((flat A l).length : Int) ≤ 100000000 := by omega
  clear la pA IA
  go_wp2_with fail
  refine C2.out.mono ?_
  rintro e w3 ⟨v3, rfl, o3, g3, k3⟩
  have hx3 := HX2.out.grown g3 (fun e => by have h1 := HLT.out _ e; have h2 := HSZ.out; omega)
  have K3 : Hid (∀ g, v3.ownBlock = some g → ((Value.slice a l.length cap).ownBlock = some g ∨ w.heap.size ≤ g) ∧ g ≠ w1.heap.size) := hide (fun g hg => by
    have h2 := HSZ.out
    have h3 := HZ2.out
    rcases k3 g hg with h | h
    · have h1 := HLT.out g h
      exact ⟨.inl h, by omega⟩
    · exact ⟨.inr (by omega), by omega⟩)
  have G3 := hide (grown_trans G2.out g3 (fun g hg => .inl hg))
  obtain ⟨x3, c3, rfl⟩ := own_shapeT o3
  have ca := hx3.at.a
  have fa := hx3.frozen 2
  have hx4 := hx3.setA (((flat A l).length : Int) - 1)
  have d0 := hx4.at.k
  have d1 := hx4.at.t
  have d2 := hx4.at.a
  have d3 := hx4.at.b
  simp only [Nat.zero_add] at ca d1 d2 d3
  have G5 := hide (grown_trans G3.out (grown_set w3 w1.heap.size 2 (.int .i64 (((flat A l).length : Int) - 1))) (fun g hg => by cases hg; exact .inr HSZ.out))
  have O5 : Hid (OwP (w3.setCell ⟨w1.heap.size, 2, none⟩ (.int .i64 (((flat A l).length : Int) - 1))) base (.slice x3 (flat A l).length c3) (flat A l)) := hide
    (OwP.grown o3 (grown_set w3 w1.heap.size 2 (.int .i64 (((flat A l).length : Int) - 1))) (fun g hg e => by cases e; exact (K3.out _ hg).2 rfl))
  have hbz : base ≤ w3.heap.size := by have := g3.size; have := HZ2.out; omega
  clear hx3 hx4 g3 k3 o3
  go_wp2_with (first
    | (at_builtin; refine wpList_append_own_at _ rfl _ _ 52 rfl base 116 i1 (.agg #[.int .i64 0, .string ByteArray.empty, .int .i64 0, .int .i64 0]) 4 40 Try.underlying52 hi1 hy0 hy1 hy2 rfl (by decide) _ _ _ rfl (O5.out.alloc _) ⟨w3.heap.size, 0, none⟩ 1 1 [.int .i64 8, .string ByteArray.empty, .int .i64 (((flat A l).length : Int) - 1), .int .i64 0] rfl rfl (cell_four_newP _ _ (by first | rfl | simp) _ _ _ _ _) (four_one _ _ _ _) (by unfold maxLen; omega) (by omega) (by simp; omega) ?_)
    | go_in)
  intro v6 w6 h6 g6 _ hat
  have HR := hide (fin_ret (p := ⟨8, ByteArray.empty, ((flat A l).length : Int) - 1, 0⟩) G5.out (fun g hg => (K3.out g hg).1) h6 g6 (hat.imp id (fun h => ⟨_, h, by first | exact Nat.le_refl _ | (simp; done) | (simp; omega)⟩)))
  obtain ⟨a6, c6, rfl⟩ := own_shapeT h6
  clear h6 g6 hat
  go_wp2
  go_ret
  exact HR.out
theorem partsOf_any : ∀ x, okS x → PC x
  | .none, _ => partsOf_none
  | .empty, _ => partsOf_empty
  | .letter c, h => partsOf_letter c h
  | .any, _ => partsOf_any'
  | .seq a b, h => partsOf_seq a b (partsOf_any a h.1) (partsOf_any b h.2)
  | .alt a b, h => partsOf_alt a b (partsOf_any a h.1) (partsOf_any b h.2)
  | .many a, h => partsOf_many a (partsOf_any a h)
  | .inv a, h => partsOf_inv a (partsOf_any a h)
end Go.Proofs.Ytapffbbmofhpoab.L5

namespace Go.Proofs.Ytapffbbmofhpoab.L5
open Go.RowKit L1 L4
set_option linter.unusedVariables false

theorem rdp_none {w w' : World} {g k : Nat} {s : ByteArray} {o : Int} {e : Ending} (h : RdP w g s o (none, k) e w') : e = .returned (.tuple #[.nilIface, .bool false]) ∧ ∃ o', Mv w w' g s k o' := ⟨h.1, by obtain ⟨o', _, h2⟩ := h.2; exact ⟨o', h2⟩⟩
theorem rdp_some {w w' : World} {g k : Nat} {s : ByteArray} {o : Int} {x : Sh} {e : Ending} (h : RdP w g s o (some x, k) e w') : e = .returned (.tuple #[sv x, .bool true]) ∧ Mv w w' g s k o := by
  obtain ⟨h1, o', h3, h2⟩ := h
  obtain rfl := h3 rfl
  exact ⟨h1, h2⟩
theorem mv_below {w w' : World} {o : Obj} {g k : Nat} {s : ByteArray} {q : Int} (hg : g = w.heap.size) (h : Mv (w.alloc o) w' g s k q) : Below w.heap.size w w' := by
  subst hg
  exact ((Below.refl _ _).alloc (Nat.le_refl _) o).grown h.gr (by simp) (fun k hk => by cases hk; exact Nat.le_refl _)
theorem below_drewQ {w w' : World} {N : Nat} (h : Below N w w') : ∀ q, Below N w (w'.drewN q)
  | 0 => h
  | q + 1 => (below_drewQ h q).drew
set_option maxRecDepth 100000 in
set_option maxHeartbeats 4000000 in
theorem implReadForm_any (s : ByteArray) (w : World) (hs : s.size ≤ 1048576) (r : Option (List Pr) × Int) (hr : r = readRes s) :
    Calls Try.prog 50 #[.string s] w fun e w' => RetQ w r e w' := by
  unfold readRes at hr
  by_cases hbig : 120 < s.size
  · rw [if_pos hbig] at hr
    subst hr
    have hbigI : 120 < (s.size : Int) := by omega
    go_enter Try.func50, Try.ntmps50
    go_wp2
    go_ret3
    exact retQ_no (Below.refl _ _)
  rw [if_neg hbig] at hr
  have hbigI : ¬ 120 < (s.size : Int) := by omega
  have N0 := hide (RB.new w s 0 0)
  have C1 := hide (fun g w h => read_any 61 s 0 g 0 w h (Nat.zero_le _) (by omega) (by omega) (by omega))
  have hin := prs_in s 61 0 (Nat.zero_le _)
  have hok := prs_ok s 61 0
  have hsz := prs_sz s 61 0
  rcases he : prs s 61 0 with ⟨x, k⟩
  rw [he] at hin hok hsz hr
  simp only [he] at C1
  have hk : k ≤ s.size := hin.2
  clear he hin
  cases x with
  | none =>
    subst hr
    clear hok hsz
    go_enter Try.func50, Try.ntmps50
    go_wp2_with fail
    refine (C1.out _ _ N0.out).mono ?_
    rintro e w2 h2
    obtain ⟨rfl, o2, m2⟩ := rdp_none h2
    have c1 := m2.rb.k
    have B2 := hide (mv_below rfl m2)
    clear h2 m2
    go_wp2
    go_quiet (fail)
    go_wp2
    go_ret3
    exact retQ_no (below_drewQ B2.out _)
  | some x =>
    have hok := hok x rfl
    have hsz := hsz x rfl
    simp only at hr hsz
    have HOK := hide hok
    by_cases hlt : k < s.size
    · rw [if_pos hlt] at hr
      subst hr
      have hltI : (k : Int) < (s.size : Int) := by omega
      clear hok hsz
      go_enter Try.func50, Try.ntmps50
      go_wp2_with fail
      refine (C1.out _ _ N0.out).mono ?_
      rintro e w2 h2
      obtain ⟨rfl, m2⟩ := rdp_some h2
      have c1 := m2.rb.k
      have B2 := hide (mv_below rfl m2)
      clear h2 m2
      go_wp2
      go_quiet (fail)
      go_wp2
      go_ret3
      exact retQ_no (below_drewQ B2.out _)
    · rw [if_neg hlt] at hr
      have hltI : ¬ (k : Int) < (s.size : Int) := by omega
      have hlen := flat_len x []
      simp only [List.length_nil, Nat.zero_add] at hlen
      have C5 := hide (fun base w hb => partsOf_any x HOK.out base (.slice none 0 0) [] w (World.ownsRow_nil _ _ _ _) hb (by simp; omega))
      obtain ⟨L, hL⟩ : ∃ L, L = flat x [] := ⟨_, rfl⟩
      simp only [← hL] at hlen hr C5
      have hL2 : (L.length : Int) ≤ 1000 := by omega
      have HR := hide hr
      clear hr hok hsz hlen hL
      go_enter Try.func50, Try.ntmps50
      go_wp2_with fail
      refine (C1.out _ _ N0.out).mono ?_
      rintro e w2 h2
      obtain ⟨rfl, m2⟩ := rdp_some h2
      have c1 := m2.rb.k
      have B2 := hide (mv_below rfl m2)
      clear h2 m2
      go_wp2_with fail
      refine (C5.out w.heap.size _ B2.out.size).mono ?_
      rintro e w4 ⟨v4, rfl, o4, g4, k4⟩
      have B4 := hide (B2.out.grown g4 B2.out.size (fun k hk => by cases hk))
      have O4 := hide o4
      obtain ⟨x4, c4, rfl⟩ := own_shapeT o4
      clear o4 g4 k4 c1
      by_cases h24 : 24 < (L.length : Int)
      · have HR2 : Hid (r = (none, (s.size : Int))) := hide (by rw [HR.out, if_pos (by omega)])
        go_wp2
        go_ret3
        rw [HR2.out]
        exact retQ_no B4.out
      · have HR2 : Hid (r = (some L, 0)) := hide (by rw [HR.out, if_neg (by omega)])
        go_wp2
        go_ret3
        rw [HR2.out]
        exact ⟨_, rfl, O4.out, B4.out⟩
end Go.Proofs.Ytapffbbmofhpoab.L5
