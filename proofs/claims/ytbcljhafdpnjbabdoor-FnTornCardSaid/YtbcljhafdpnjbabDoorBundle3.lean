/-
  Contracts: impl.recordStarts (where whole records begin, and where the last one ends), impl.thinned (every third place).
  Pieces that are owned, written over. Nothing of the program's text is proved here.
  Blocks of three cells, and cuts of texts. Nothing of the program's text is proved here but closed facts on its types.
  Contracts: impl.wholePiece (the piece of as many whole records as a text begins with), impl.endOfPiece.
  A row of bytes as a text. Nothing of the program's text is proved here but closed facts on its types.
  Contract: spec.l1Varint makes the digits to 128 of a number's ZigZag, as a text; memory that was there stays as it was.
  Contracts: spec.l1Zag, spec.l1Get (of a text and a place the number whose digits stand there, and the place behind, -1 where there is none), spec.GetVarint.
  Contracts: spec.l1In, spec.l6Starts, spec.l6Index.
-/
import Derived.Test.YtbcljhafdpnjbabDoorBundle2
import Derived.Test.YtbcljhafdpnjbabDoorBundle1
import Derived.Deep.RegionWith
import Derived.Lib.VarintBits
import Derived.Deep.RegionHeld3
import Derived.Deep.QuietTactic
import Derived.BigQuiet
import Derived.OwnWalk
namespace Go.Proofs.YtbcljhafdpnjbabDoor.L6
open Go.RowKit L1
set_option linter.unusedVariables false

set_option maxRecDepth 100000 in
set_option maxHeartbeats 2000000 in
theorem recordStarts_any (s : ByteArray) (w : World) (hs : s.size ≤ 1048576) (ht : Tab w) :
    Calls Tryd.prog 42 #[.string s] w fun e w' => ∃ v, e = .returned (.tuple #[v, .int .i64 (wh s : Nat)]) ∧ w'.ownsRow w.heap.size 3 1 v (cnt s) ((st s).map (Value.int .i64)) ∧ Below w.heap.size w w' := by
  obtain ⟨i0, hi, hz0, hz1, hz2⟩ := info_parts info_int
  have hcl := cnt_le s
  have HT := hide ht
  clear ht
  go_enter Tryd.func42, Tryd.ntmps42
  go_wp2
  go_loopw [4, 5] (fun o i wr => ∃ j : Nat, j ≤ cnt s ∧ i = .int .i64 (pl s 0 j : Nat) ∧ wr.ownsRow w.heap.size 3 1 o j ((stk s j).map (Value.int .i64)) ∧ Below w.heap.size w wr) (fun _ i _ => s.size - (intOf i).toNat)
  case atStart => exact ⟨0, by omega, rfl, World.ownsRow_nil _ _ _ _, Below.refl _ _⟩
  case round =>
    obtain ⟨j, hj, rfl, hown, hbel⟩ := hrel
    obtain ⟨b1, q1, rfl, _, _⟩ := own_form hown
    have hpl := pl_le s j
    by_cases hlt : j < cnt s
    · obtain ⟨c, n, hrc, hnx⟩ := cnt_rc s j hlt
      have hpl2 := pl_le s (j + 1)
      have hps := pl_lt s j hlt
      have hsk := stk_succ s j
      have C := hide (recordAt_some s (pl s 0 j) c n wr hrc hs (HT.out.below hbel))
      obtain ⟨t, htt⟩ : ∃ t, t = rtx s (pl s 0 j) := ⟨_, rfl⟩
      rw [← htt, show nx s (pl s 0 j) = pl s 0 (j + 1) from rfl] at C
      have HJ : Hid (pl s 0 (j + 1) = pl s 0 (j + 1)) := rfl
      obtain ⟨p, hp⟩ : ∃ p, p = pl s 0 j := ⟨_, rfl⟩
      obtain ⟨q, hq⟩ : ∃ q, q = pl s 0 (j + 1) := ⟨_, rfl⟩
      rw [← hp] at C hpl hps hsk
      rw [← hq] at C hpl2 hps
      rw [← hp]
      have HSK := hide hsk
      have HQ := hide hq
      have O := hide hown
      have B := hide hbel
      clear hrc hnx hsk hq hown hbel htt HJ
      have hp' := hide hp
      clear hp
      go_wp2_with fail
      refine C.out.mono ?_
      rintro e w1 ⟨rfl, rfl⟩
      go_wp2_with (first
        | (at_builtin; refine wpList_append_own _ rfl _ _ 48 rfl w.heap.size 3 i0 (.int .i64 0) 1 8 Tryd.underlying48 hi hz0 hz1 hz2 rfl (by decide) _ _ _ rfl (O.out.alloc _) ⟨wr.heap.size, 0, none⟩ 1 1 [.int .i64 (p : Int)] rfl rfl (cell_one_new _ _ _) (by intro u hu; simp at hu; subst hu; rfl) (by unfold maxLen; omega) (by omega) (by have := B.out.size; simp; omega) ?_)
        | go_in)
      intro v6 w6 h6 g6 _
      have hbase : w.heap.size ≤ (wr.alloc (.cells #[.int .i64 (p : Int)] 3)).heap.size := by have := B.out.size; simp; omega
      have O6 : w6.ownsRow w.heap.size 3 1 v6 (j + 1) ((stk s (j + 1)).map (Value.int .i64)) := by
        rw [HSK.out, List.map_append]
        exact h6
      have B6 := (B.out.alloc (Nat.le_trans B.out.size (Nat.le_refl _)) _).grown g6 hbase (fun k hk => (O.out.lt k hk).1)
      have HR := hide (And.intro O6 B6)
      obtain ⟨a6, c6, rfl, _, _⟩ := own_form O6
      clear h6 g6 O6 B6 hbase
      go_wp2
      go_roundw
      case rel => exact ⟨j + 1, by omega, by rw [HQ.out], HR.out⟩
      case measure => simp [intOf]; omega
    · obtain rfl : j = cnt s := by omega
      have hrc := cnt_no s
      have C := hide (recordAt_none s (pl s 0 (cnt s)) wr hrc hs (HT.out.below hbel))
      obtain ⟨p, hp⟩ : ∃ p, p = pl s 0 (cnt s) := ⟨_, rfl⟩
      rw [← hp] at C hpl
      rw [← hp]
      have E : Hid (wh s = p) := hp.symm
      have O := hide hown
      have B := hide hbel
      clear hrc hp hown hbel
      go_wp2_with fail
      refine C.out.mono ?_
      rintro e w1 ⟨rfl, rfl⟩
      go_wp2
      go_ret2
      exact ⟨_, by rw [E.out]; rfl, O.out, B.out⟩

set_option maxRecDepth 100000 in
set_option maxHeartbeats 2000000 in
theorem thinned_any (s : ByteArray) (a : Option Addr) (n cap : Nat) (w : World) (hn : cnt s = n) (hn2 : n ≤ 1048576) (hs : Sl w a (st s)) :
    Calls Tryd.prog 63 #[.slice a n cap] w fun e w' => ∃ v, e = .returned v ∧ w'.ownsRow w.heap.size 3 1 v (ix s).length ((ix s).map (Value.int .i64)) ∧ Below w.heap.size w w' := by
  obtain ⟨i0, hi, hz0, hz1, hz2⟩ := info_parts info_int
  have HS := hide hs
  have HN := hide hn
  clear hs hn
  go_enter Tryd.func63, Tryd.ntmps63
  go_wp2
  go_loopw [3, 4] (fun o i wr => ∃ j : Nat, j ≤ (n + 2) / 3 ∧ i = .int .i64 ((3 * j : Nat) : Int) ∧ wr.ownsRow w.heap.size 3 1 o j ((ixk s j).map (Value.int .i64)) ∧ Below w.heap.size w wr) (fun _ i _ => n + 3 - (intOf i).toNat)
  case atStart => exact ⟨0, by omega, rfl, World.ownsRow_nil _ _ _ _, Below.refl _ _⟩
  case round =>
    obtain ⟨j, hj, rfl, hown, hbel⟩ := hrel
    obtain ⟨b1, q1, rfl, _, _⟩ := own_form hown
    by_cases hlt : 3 * j < n
    · obtain ⟨b, off, rfl, hc0⟩ := HS.out (3 * j) (by rw [stk_len, HN.out]; exact hlt)
      have hc := (hbel.cell (p := ⟨b, off + 3 * j, none⟩) (blk_lt hc0)).trans hc0
      rw [stk_get s (cnt s) (3 * j) (by rw [HN.out]; exact hlt)] at hc
      have hsk := ixk_succ s j
      obtain ⟨p, hp⟩ : ∃ p : Int, p = (pl s 0 (3 * j) : Int) := ⟨_, rfl⟩
      rw [← hp] at hc hsk
      obtain ⟨d, hd⟩ : ∃ d, d = 3 * j := ⟨_, rfl⟩
      rw [← hd] at hc ⊢
      have hltI : (d : Int) < (n : Int) := by omega
      have hd0 : (0 : Int) ≤ (d : Int) := by omega
      have HSK := hide hsk
      have HD := hide hd
      have O := hide hown
      have B := hide hbel
      clear hsk hd hown hbel hp hc0
      go_wp2_with (first
        | (at_builtin; refine wpList_append_own _ rfl _ _ 48 rfl w.heap.size 3 i0 (.int .i64 0) 1 8 Tryd.underlying48 hi hz0 hz1 hz2 rfl (by decide) _ _ _ rfl (O.out.alloc _) ⟨wr.heap.size, 0, none⟩ 1 1 [.int .i64 p] rfl rfl (cell_one_new _ _ _) (by intro u hu; simp at hu; subst hu; rfl) (by unfold maxLen; omega) (by omega) (by have := B.out.size; simp; omega) ?_)
        | go_in)
      intro v6 w6 h6 g6 _
      have hbase : w.heap.size ≤ (wr.alloc (.cells #[.int .i64 p] 3)).heap.size := by have := B.out.size; simp; omega
      have O6 : w6.ownsRow w.heap.size 3 1 v6 (j + 1) ((ixk s (j + 1)).map (Value.int .i64)) := by
        rw [HSK.out, List.map_append]
        exact h6
      have B6 := (B.out.alloc (Nat.le_trans B.out.size (Nat.le_refl _)) _).grown g6 hbase (fun k hk => (O.out.lt k hk).1)
      have HR := hide (And.intro O6 B6)
      obtain ⟨a6, c6, rfl, _, _⟩ := own_form O6
      clear h6 g6 O6 B6 hbase
      go_wp2
      go_roundw
      case rel => exact ⟨j + 1, by have := HD.out; omega, by rw [show ((3 * (j + 1) : Nat) : Int) = (d : Int) + 3 by have := HD.out; omega], HR.out⟩
      case measure => simp [intOf]; omega
    · have hjj : j = (n + 2) / 3 := by omega
      obtain ⟨d, hd⟩ : ∃ d, d = 3 * j := ⟨_, rfl⟩
      rw [← hd]
      have hltI : ¬ (d : Int) < (n : Int) := by omega
      have E : ixk s j = ix s := by unfold ix; rw [HN.out, hjj]
      have E2 : (ix s).length = j := by rw [← E, ixk_len]
      have O := hide hown
      rw [E] at O
      have HE := hide E2
      clear E E2 hown hd hjj
      go_wp2
      go_ret
      exact ⟨_, rfl, by rw [HE.out]; exact O.out, hbel⟩
end Go.Proofs.YtbcljhafdpnjbabDoor.L6

namespace Go.Proofs.YtbcljhafdpnjbabDoor.L6
open Go.RowKit L1
set_option linter.unusedVariables false

theorem getD_set_self (M : List PV) (k : Nat) (p : PV) (h : k < M.length) : (M.set k p).getD k eV = p := by simp [List.getD, h]
theorem getD_set_ne (M : List PV) (k i : Nat) (p : PV) (h : i ≠ k) : (M.set k p).getD i eV = M.getD i eV := by simp [List.getD, Ne.symm h]
/-- Three cells of a row that is owned, written over. -/
theorem OwC.put {w : World} {base g n cap : Nat} {M : List PV} (h : OwC w base (.slice (some ⟨g, 0, none⟩) n cap) n M) (k : Nat) (hk : k < n) (p : Pc) (v : Value)
    (hv : w.ownsRow base 3 1 v p.x.length (p.x.map (Value.int .i64))) (hne : ∀ i, i < n → i ≠ k → ∀ b, v.ownBlock = some b → (M.getD i eV).2.ownBlock ≠ some b) :
    OwC (((w.setCell ⟨g, k * 3, none⟩ (.int .i64 p.f)).setCell ⟨g, k * 3 + 1, none⟩ (.string p.s)).setCell ⟨g, k * 3 + 2, none⟩ v) base (.slice (some ⟨g, 0, none⟩) n cap) n (M.set k (p, v)) ∧
    w.grownBy (((w.setCell ⟨g, k * 3, none⟩ (.int .i64 p.f)).setCell ⟨g, k * 3 + 1, none⟩ (.string p.s)).setCell ⟨g, k * 3 + 2, none⟩ v) (some g) := by
  have h1 := h.row.stored (k * 3) (.int .i64 p.f)
  have h2 := h1.1.stored (k * 3 + 1) (.string p.s)
  have h3 := h2.1.stored (k * 3 + 2) v
  have hg := (h1.2.trans h2.2).trans h3.2
  have hl := h.len
  have keep : ∀ {c m : Nat} {u : Value} {ys : List Value}, w.ownsRow base 3 c u m ys → (((w.setCell ⟨g, k * 3, none⟩ (.int .i64 p.f)).setCell ⟨g, k * 3 + 1, none⟩ (.string p.s)).setCell ⟨g, k * 3 + 2, none⟩ v).ownsRow base 3 c u m ys := fun hu =>
    own_keptC hu hg (fun b hb e => by
      simp at e
      subst e
      exact own_two h.row hu int_piece g rfl hb)
  refine ⟨⟨by simpa using hl, by rw [flatC_set]; exact h3.1, fun i hi => ?_, fun i j hij hj => ?_⟩, hg⟩
  · by_cases e : i = k
    · subst e
      rw [getD_set_self M i _ (by omega)]
      exact keep hv
    · rw [getD_set_ne M k i _ e]
      exact keep (h.idx i hi)
  · intro b
    by_cases e : i = k
    · have e2 : j ≠ k := by omega
      subst e
      rw [getD_set_self M i _ (by omega), getD_set_ne M i j _ e2]
      exact hne j hj e2 b
    · by_cases e2 : j = k
      · subst e2
        rw [getD_set_self M j _ (by omega), getD_set_ne M j i _ e]
        intro h1 h2
        exact hne i (by omega) e b h2 h1
      · rw [getD_set_ne M k i _ e, getD_set_ne M k j _ e2]
        exact h.apart i j hij hj b
/-- Blocks of what is owned are there. -/
theorem own_ltC {w : World} {base n c : Nat} {t : TypeId} {v : Value} {ys : List Value} (h : w.ownsRow base t c v n ys) (b : Nat) (hb : v.ownBlock = some b) : base ≤ b ∧ b < w.heap.size := by
  rcases h.2 with ⟨rfl, _⟩ | ⟨g, cap, cur, rfl, hbg, hg, _⟩
  · simp [Value.ownBlock] at hb
  · simp [Value.ownBlock] at hb
    subst hb
    exact ⟨hbg, (Array.getElem?_eq_some_iff.1 hg).1⟩

end Go.Proofs.YtbcljhafdpnjbabDoor.L6

namespace Go.Proofs.YtbcljhafdpnjbabDoor.L6
open Go.RowKit L1
set_option linter.unusedVariables false

theorem blk3 {w : World} {g : Nat} {a b c : Value} {t : TypeId} (h : w.heap[g]? = some (.cells #[a, b, c] t (0, 0))) :
    w.cell? ⟨g, 0, none⟩ = some a ∧ w.cell? ⟨g, 1, none⟩ = some b ∧ w.cell? ⟨g, 2, none⟩ = some c ∧ w.frozen? ⟨g, 0, none⟩ = false ∧ w.frozen? ⟨g, 1, none⟩ = false ∧ w.frozen? ⟨g, 2, none⟩ = false := by
  simp [World.cell?, World.frozen?, h]
theorem blk_new (w : World) (o : Obj) : (w.alloc o).heap[w.heap.size]? = some o := by
  show (w.heap.push o)[w.heap.size]? = some o
  exact Array.getElem?_push_size
theorem own_setC {w : World} {base n c : Nat} {t : TypeId} {v : Value} {ys : List Value} (h : w.ownsRow base t c v n ys) (p : Addr) (u : Value) (hp : p.block < base) : (w.setCell p u).ownsRow base t c v n ys := by
  refine ⟨h.1, ?_⟩
  rcases h.2 with h0 | ⟨g, cap, cur, rfl, hbg, hg, r⟩
  · exact .inl h0
  · exact .inr ⟨g, cap, cur, rfl, hbg, by rw [Below.heap_setCell _ _ _ _ (by omega)]; exact hg, r⟩
theorem slice_to (w : World) (s : ByteArray) (k : Nat) (h : k ≤ s.size) :
    (Instr.slice 9 (.string s) none (some (.int .i64 (k : Int))) none).run Tryd.prog w = .ok (.string (s.extract 0 k)) w := by
  have h := run_slice_string_to_if (P := Tryd.prog) w 9 s .i64 (k : Int) Tryd.underlying9
  rw [h]
  rw [if_pos (by omega)]
  congr 4

end Go.Proofs.YtbcljhafdpnjbabDoor.L6

namespace Go.Proofs.YtbcljhafdpnjbabDoor.L6
open Go.RowKit L1
set_option linter.unusedVariables false

set_option maxRecDepth 100000 in
set_option maxHeartbeats 2000000 in
theorem wholePiece_any (f : Int) (s : ByteArray) (w : World) (hs : s.size ≤ 1048576) (ht : Tab w) :
    Calls Tryd.prog 36 #[.int .i64 f, .string s] w fun e w' => ∃ v, e = .returned (.agg #[.int .i64 f, .string (s.extract 0 (wh s)), v]) ∧ w'.ownsRow w.heap.size 3 1 v (ix s).length ((ix s).map (Value.int .i64)) ∧ Below w.heap.size w w' := by
  obtain ⟨N, hN⟩ : ∃ N, N = (ix s).length := ⟨_, rfl⟩
  rw [← hN]
  have C1 := hide (fun w ht => recordStarts_any s w hs ht)
  have HT := hide ht
  have q := fun w => slice_to w s (wh s) (wh_le s)
  have hcl := cnt_le s
  obtain ⟨m, hm⟩ : ∃ m, m = cnt s := ⟨_, rfl⟩
  have C2 := hide (fun a cap w hs => thinned_any s a m cap w hm.symm (by omega) hs)
  rw [← hm] at C1
  obtain ⟨y, hy⟩ : ∃ y, y = s.extract 0 (wh s) := ⟨_, rfl⟩
  rw [← hy] at q ⊢
  obtain ⟨k, hk⟩ : ∃ k, k = wh s := ⟨_, rfl⟩
  rw [← hk] at C1 q
  clear hy hk ht hm
  go_enter Tryd.func36, Tryd.ntmps36
  go_wp2_with fail
  refine (C1.out _ (HT.out.below ((Below.refl _ _).alloc (Nat.le_refl _) _))).mono ?_
  rintro e w1 ⟨v1, rfl, ho1, hb1⟩
  obtain ⟨a1, q1, rfl, s1, _⟩ := own_form ho1
  have G1 : w1.heap[w.heap.size]? = some (.cells #[.int .i64 0, .string ByteArray.empty, .slice none 0 0] 50 (0, 0)) := (hb1.block w.heap.size (by simp)).trans (blk_new _ _)
  have B1 := hide (((Below.refl w.heap.size w).alloc (Nat.le_refl _) (.cells #[.int .i64 0, .string ByteArray.empty, .slice none 0 0] 50 (0, 0))).trans (hb1.mono (by simp)))
  have C3 := hide (fun wx (hb : Below w1.heap.size w1 wx) => (C2.out a1 q1 wx (s1.below hb)).mono (R' := fun e w2 => ∃ a2 q2, e = .returned (.slice a2 N q2) ∧ (w2.ownsRow w1.heap.size 3 1 (.slice a2 N q2) N ((ix s).map (Value.int .i64)) ∧ Below w1.heap.size w1 w2) ∧ (w2.cell? ⟨w.heap.size, 0, none⟩ = some (.int .i64 0) ∧ w2.cell? ⟨w.heap.size, 1, none⟩ = some (.string ByteArray.empty) ∧ w2.cell? ⟨w.heap.size, 2, none⟩ = some (.slice none 0 0) ∧ w2.frozen? ⟨w.heap.size, 0, none⟩ = false ∧ w2.frozen? ⟨w.heap.size, 1, none⟩ = false ∧ w2.frozen? ⟨w.heap.size, 2, none⟩ = false)) (by
    rintro e w2 ⟨v2, rfl, ho2, hb2⟩
    have hb3 := hb.trans (hb2.mono hb.size)
    rw [← hN] at ho2
    obtain ⟨a2, q2, rfl, _, _⟩ := own_form ho2
    exact ⟨a2, q2, rfl, ⟨own_baseC ho2 hb.size, hb3⟩, blk3 ((hb3.block w.heap.size (Array.getElem?_eq_some_iff.1 G1).1).trans G1)⟩))
  have hlt : w.heap.size < w1.heap.size := (Array.getElem?_eq_some_iff.1 G1).1
  clear ho1 hb1 G1 s1 C2 hN
  go_wp2
  go_region_with (go_at_call 63; refine (C3.out _ ?_).mono ?_; (first | exact Below.refl _ _ | exact (Below.refl _ _).drew | exact ((Below.refl _ _).drew).drew); rintro e w2 ⟨a2, q2, rfl, ho2, c0, c1, c2, c3, c4, c5⟩)
  have H2 := hide ho2
  clear ho2
  go_wp2
  refine bodyPost_ret (v := .agg #[.int .i64 f, .string y, .slice a2 N q2]) (by simp [results, Tryd.f36, go_sem, c0, c1, c2]) rfl ⟨_, rfl, ?_, ?_⟩
  · exact own_setC (own_setC (own_setC (own_baseC H2.out.1 (Nat.le_refl _)) ⟨_, _, none⟩ _ hlt) ⟨_, _, none⟩ _ hlt) ⟨_, _, none⟩ _ hlt |> fun h => own_baseC h (Nat.le_of_lt hlt)
  · exact (((B1.out.trans (H2.out.2.mono B1.out.size)).setCell (p := ⟨_, _, none⟩) (Nat.le_refl _) _).setCell (p := ⟨_, _, none⟩) (Nat.le_refl _) _).setCell (p := ⟨_, _, none⟩) (Nat.le_refl _) _

set_option maxRecDepth 100000 in
set_option maxHeartbeats 1000000 in
theorem endOfPiece_any (f : Int) (s : ByteArray) (a : Option Addr) (m q : Nat) (w : World) (hs : s.size ≤ 1048576) (h1 : -1000000000000 ≤ f) (h2 : f ≤ 1000000000000) (ht : Tab w) :
    Calls Tryd.prog 46 #[.agg #[.int .i64 f, .string s, .slice a m q]] w fun e w' => e = .returned (.int .i64 (f + (cnt s : Int))) ∧ Below w.heap.size w w' := by
  have C1 := hide (fun w ht => recordStarts_any s w hs ht)
  have hcl := cnt_le s
  obtain ⟨n, hn⟩ : ∃ n, n = cnt s := ⟨_, rfl⟩
  rw [← hn] at C1 hcl ⊢
  obtain ⟨k, hk⟩ : ∃ k, k = wh s := ⟨_, rfl⟩
  rw [← hk] at C1
  have HT := hide ht
  clear hk ht hn
  go_enter Tryd.func46, Tryd.ntmps46
  go_wp2_with fail
  refine (C1.out _ (HT.out.below ((Below.refl _ _).alloc (Nat.le_refl _) _))).mono ?_
  rintro e w1 ⟨v1, rfl, ho1, hb1⟩
  obtain ⟨a1, q1, rfl, s1, _⟩ := own_form ho1
  have G1 : w1.heap[w.heap.size]? = some (.cells #[.int .i64 f, .string s, .slice a m q] 50 (0, 0)) := (hb1.block w.heap.size (by simp)).trans (blk_new _ _)
  obtain ⟨c0, c1, c2, _, _, _⟩ := blk3 G1
  have B1 := hide (((Below.refl w.heap.size w).alloc (Nat.le_refl _) (.cells #[.int .i64 f, .string s, .slice a m q] 50 (0, 0))).trans (hb1.mono (by simp)))
  clear ho1 hb1 G1 s1
  go_wp2
  go_ret
  exact ⟨rfl, B1.out⟩
end Go.Proofs.YtbcljhafdpnjbabDoor.L6

namespace Go.Proofs.YtbcljhafdpnjbabDoor.L1
open Go.RowKit
set_option linter.unusedVariables false

theorem info_u8 : (Tryd.prog.info? 5).map (fun i => (i.zero, i.size, i.bytes)) = some (some (.int .u8 0), 1, 1) := by kernel_rfl

/-- A row of bytes that a call owns, as a text. -/
theorem conv_own {w : World} {base : Nat} {v : Value} {n : Nat} {l : List Int} (hown : w.ownsRow base 5 1 v n (l.map (Value.int .u8))) (hn : 0 < n) :
    (convert 22 9 v).run Tryd.prog w = .ok (.string (strOfNums l)) w := by
  have hlen := hown.1
  rcases hown.2 with ⟨_, h0⟩ | ⟨g, cap, cur, rfl, hb, hg, hle, hm, hs, ht⟩
  · omega
  · simp at hlen
    exact run_convert_bytes_arg w 22 5 Tryd.underlying22 Tryd.underlying5 g 0 n cap l hlen (fun i hi => by
      have := hown.cells (g := g) rfl i (.int .u8 (l.getD i 0)) (by
        rw [List.getElem?_map, List.getElem?_eq_getElem (by omega)]
        simp [List.getD, List.getElem?_eq_getElem (show i < l.length by omega)])
      rw [addr_add] at this
      simpa using this) 9 Tryd.underlying9
end Go.Proofs.YtbcljhafdpnjbabDoor.L1

namespace Go.Proofs.YtbcljhafdpnjbabDoor.L1
open Go.RowKit
set_option linter.unusedVariables false

set_option maxRecDepth 100000 in
set_option maxHeartbeats 400000 in
theorem l1Zig_any (n : Int) (w : World) (h1 : -1000000000000 ≤ n) (h2 : n ≤ 1000000000000) :
    Calls Tryd.prog 76 #[.int .i64 n] w fun e w' => e = .returned (.int .i64 (zig n)) ∧ w = w' := by
  unfold zig
  by_cases h : n < 0
  · rw [if_pos h]
    go_enter Tryd.func76, Tryd.ntmps76
    go_wp2
    go_ret
    exact ⟨rfl, rfl⟩
  · rw [if_neg h]
    go_enter Tryd.func76, Tryd.ntmps76
    go_wp2
    go_ret
    exact ⟨rfl, rfl⟩

set_option maxRecDepth 100000 in
set_option maxHeartbeats 1000000 in
theorem l1Varint_any (n : Int) (w : World) (h1 : -1000000000000 ≤ n) (h2 : n ≤ 1000000000000) :
    Calls Tryd.prog 65 #[.int .i64 n] w fun e w' => e = .returned (.string (strOfNums (vd (zig n)))) ∧ Below w.heap.size w w' := by
  have z0 := zig_lo n
  have z1 := zig_hi n h1 h2
  obtain ⟨i0, hi, hz0, hz1, hz2⟩ := info_parts info_u8
  go_enter Tryd.func65, Tryd.ntmps65
  go_wp2_with (go_at_call 76; refine (l1Zig_any _ _ h1 h2).mono ?_; rintro e w' ⟨rfl, rfl⟩)
  obtain ⟨Z, hZ⟩ : ∃ Z, Z = zig n := ⟨_, rfl⟩
  rw [← hZ] at z0 z1 ⊢
  have HZ := hide hZ
  clear hZ h1 h2
  go_loopw [3, 4] (fun z b wr => ∃ (f : Nat) (pre : List Int) (zk : Int), f ≤ 5 ∧ Hid (vd Z = pre ++ vdf f zk) ∧ 0 ≤ zk ∧ zk < wor (f + 1) ∧ zk ≤ 2000000000000 ∧ pre.length = 5 - f ∧ z = .int .i64 zk ∧
      wr.ownsRow w.heap.size 5 1 b pre.length (pre.map (Value.int .u8)) ∧ Below w.heap.size w wr) (fun z _ _ => (intOf z).toNat)
  case atStart => exact ⟨5, [], Z, by omega, rfl, z0, by simp [wor]; omega, z1, rfl, rfl, World.ownsRow_nil _ _ _ _, Below.refl _ _⟩
  case round =>
    obtain ⟨f, pre, zk, hf, HV, hz0', hz1', hz2', hpl, rfl, hown, hbel⟩ := hrel
    have HP := hide hpl
    have HW := hide hz1'
    have hpl5 : pre.length ≤ 5 := by omega
    clear hpl hz1'
    by_cases hlt : zk < 128
    · go_wp2_with (first
        | (at_builtin; refine wpList_append_own _ rfl _ _ 22 rfl w.heap.size 5 i0 (.int .u8 0) 1 1 Tryd.underlying22 hi hz0 hz1 hz2 rfl (by decide) _ _ _ rfl (hown.alloc _) ⟨wr.heap.size, 0, none⟩ 1 1 [.int .u8 zk] rfl rfl (cell_one_new _ _ _) (by intro u hu; simp at hu; subst hu; rfl) (by unfold maxLen; omega) (by omega) (by have := hbel.size; simp; omega) ?_)
        | go_in)
      · intro v' w1 hown' hgrow _
        have e : vd (zig n) = pre ++ [zk] := by
          rw [← HZ.out, HV.out]
          congr 1
          cases f with
          | zero => rfl
          | succ f => simp only [vdf]; rw [if_pos hlt]
        have hcv := conv_own (l := pre ++ [zk]) (v := v') (w := w1) (base := w.heap.size) (n := pre.length + 1) (by simpa using hown') (by omega)
        have hb1 : Below w.heap.size w w1 := (hbel.alloc hbel.size _).grown hgrow (by have := hbel.size; simp; omega) (fun k hk => (hown.lt k hk).1)
        have E := hide e
        clear e hown' hgrow hown
        go_wp2
        go_ret
        exact ⟨by rw [E.out]; rfl, hb1⟩
    · go_wp2_with (first
        | (at_builtin; refine wpList_append_own _ rfl _ _ 22 rfl w.heap.size 5 i0 (.int .u8 0) 1 1 Tryd.underlying22 hi hz0 hz1 hz2 rfl (by decide) _ _ _ rfl (hown.alloc _) ⟨wr.heap.size, 0, none⟩ 1 1 [.int .u8 (128 + zk % 128)] rfl rfl (cell_one_new _ _ _) (by intro u hu; simp at hu; subst hu; rfl) (by unfold maxLen; omega) (by omega) (by have := hbel.size; simp; omega) ?_)
        | go_in)
      · intro v' w1 hown' hgrow _
        have hb1 : Below w.heap.size w w1 := (hbel.alloc hbel.size _).grown hgrow (by have := hbel.size; simp; omega) (fun k hk => (hown.lt k hk).1)
        have hown2 : w1.ownsRow w.heap.size 5 1 v' (pre ++ [128 + zk % 128]).length ((pre ++ [128 + zk % 128]).map (Value.int .u8)) := by simpa using hown'
        obtain ⟨g, rfl⟩ : ∃ g, f = g + 1 := by
          cases f with
          | zero => have := HW.out; simp [wor] at this; omega
          | succ g => exact ⟨g, rfl⟩
        clear hown' hgrow hown
        go_wp2
        go_roundw
        case rel =>
          refine ⟨g, pre ++ [128 + zk % 128], zk / 128, by omega, ?_, by omega, ?_, by omega, ?_, rfl, hown2, hb1⟩
          · show vd Z = _
            rw [HV.out]
            simp only [vdf]
            rw [if_neg (by omega)]
            simp
          · have := HW.out
            have hw : wor (g + 1 + 1) = 128 * wor (g + 1) := rfl
            omega
          · have := HP.out
            simp
            omega
        case measure => simp [intOf]; omega
end Go.Proofs.YtbcljhafdpnjbabDoor.L1

namespace Go.Proofs.YtbcljhafdpnjbabDoor.L1
open Go.RowKit
set_option linter.unusedVariables false

def lgRes (a : Nat) : Option (List Int) → Value
  | none => .tuple #[.int .i64 0, .int .i64 (-1)]
  | some l => .tuple #[.int .i64 (zag (val l)), .int .i64 ((a + l.length : Nat) : Int)]
theorem lgRes_some {a k : Nat} {l : List Int} {v : Int} (hv : val l = v) (hl : l.length = k + 1) : lgRes a (some l) = .tuple #[.int .i64 (zag v), .int .i64 ((a : Int) + (k : Int) + 1)] := by
  subst hv
  simp only [lgRes, hl]
  congr 4

theorem tdiv_zag7 (z : Int) (h : 0 ≤ z) (h2 : z ≤ 1125899906842624) (ho : z % 2 = 1) : wrap64 (-(z + 1).tdiv 2) = zag z := by
  unfold zag
  rw [if_pos ho, Int.tdiv_eq_ediv_of_nonneg (by omega)]
  unfold wrap64
  omega

set_option maxRecDepth 100000 in
set_option maxHeartbeats 400000 in
theorem l1Zag_any (z : Int) (w : World) (h1 : 0 ≤ z) (h2 : z ≤ 1125899906842624) :
    Calls Tryd.prog 79 #[.int .i64 z] w fun e w' => e = .returned (.int .i64 (zag z)) ∧ w = w' := by
  by_cases h : z % 2 = 1
  · have e := tdiv_zag7 z h1 h2 h
    have E := hide e
    clear e
    go_enter Tryd.func79, Tryd.ntmps79
    go_wp2
    go_ret
    rw [← E.out]
    exact ⟨rfl, rfl⟩
  · have e : zag z = z / 2 := by unfold zag; rw [if_neg h]
    rw [e]
    clear e
    go_enter Tryd.func79, Tryd.ntmps79
    go_wp2
    go_ret
    exact ⟨rfl, rfl⟩

theorem slice_nat (w : World) (s : ByteArray) (a k : Nat) (h : a + k < s.size) :
    (Instr.slice 9 (.string s) (some (.int .i64 (a : Int))) (some (.int .i64 ((a : Int) + (k : Int) + 1))) none).run Tryd.prog w = .ok (.string (s.extract a (a + k + 1))) w := by
  have h := run_slice_string (P := Tryd.prog) w 9 s .i64 .i64 (a : Int) ((a : Int) + (k : Int) + 1) Tryd.underlying9 (by omega) (by omega) (by omega)
  rw [h]
  congr 4
attribute [local go_sem ↓] slice_nat
set_option maxRecDepth 100000 in
set_option maxHeartbeats 1000000 in
theorem l1Get_any (s : ByteArray) (a : Nat) (w : World) (ha : a < s.size) (hs : s.size ≤ 1048576) :
    Calls Tryd.prog 72 #[.string s, .int .i64 a] w fun e w' => e = .returned (lgRes a (gv (bts s a))) ∧ Below w.heap.size w w' := by
  have hI : (a : Int) < (s.size : Int) := by omega
  have htl := hide (bts_len s a)
  go_enter Tryd.func72, Tryd.ntmps72
  go_wp2
  go_loop [6, 7, 8] (fun z by_ i => ∃ j : Nat, j ≤ 7 ∧ j ≤ s.size - a ∧ i = .int .i64 ((a : Int) + (j : Int)) ∧ by_ = .int .i64 (wor j) ∧ z = .int .i64 (val ((bts s a).take j)) ∧ Hid (Hi ((bts s a).take j)) ∧ Hid (gv (bts s a) = gvf (6 - j) ((bts s a).take j) ((bts s a).drop j))) (fun _ _ i => a + 7 - (intOf i).toNat)
  case atStart => exact ⟨0, by omega, by omega, by simp, rfl, rfl, fun x hx => by simp at hx, rfl⟩
  case round =>
    obtain ⟨k, hk7, hkl, rfl, rfl, rfl, HH, HG⟩ := hrel
    by_cases hl : k < s.size - a
    · by_cases h7 : k < 7
      · have hlt : a + k < s.size := by omega
        have hb := bts_get s a k hlt
        have hbb := bts_byte s a k
        have hd := digit_bd ((bts s a).getD k 0) k (by omega)
        have hv := val_bd7 (bts s a) k (by rw [htl.out]; omega) (by omega)
        have h7I : (k : Int) < 7 := by omega
        have h7J : (a : Int) + (k : Int) < (a : Int) + 7 := by omega
        have hlI : (a : Int) + (k : Int) < (s.size : Int) := by omega
        have hb1I : (a : Int) ≤ (a : Int) + (k : Int) + 1 := by omega
        have hb2I : (a : Int) + (k : Int) + 1 ≤ (s.size : Int) := by omega
        have hb3I : (0 : Int) ≤ (a : Int) := by omega
        have hwr : IntKind.i64.wrap ((a : Int) + (k : Int) + 1) = (a : Int) + (k : Int) + 1 := by
          simp [IntKind.wrap, IntKind.bits, IntKind.signed]
          omega
        have hw1 := wor_pos k
        have hw2 : wor k ≤ 4398046511104 := by
          have : wor k ≤ wor 6 := wor_le (by omega)
          simpa [wor] using this
        obtain ⟨b, hbe⟩ : ∃ b, b = (bts s a).getD k 0 := ⟨_, rfl⟩
        rw [← hbe] at hb hbb hd
        obtain ⟨v, hve⟩ : ∃ v, v = val ((bts s a).take k) := ⟨_, rfl⟩
        rw [← hve] at hv ⊢
        have HB := hide hbe
        have HV := hide hve
        obtain ⟨hb0, hb1⟩ := hbb
        obtain ⟨hd0, hd1⟩ := hd
        obtain ⟨hv0, hv1⟩ := hv
        have hb' := hb.symm
        have hand := u8_and127 b hb0 hb1
        clear hbe hve hb
        by_cases h128 : b < 128
        · have hsep := vd_sep k (bts s a) (by rw [htl.out]; omega) h7 HH.out (by rw [← HB.out]; omega) (by rw [← HB.out]; omega)
          rw [← HG.out] at hsep
          have hst : val ((bts s a).take (k + 1)) = v + b % 128 * wor k := by rw [val_take _ _ (by rw [htl.out]; omega), ← HB.out, ← HV.out]
          rw [hst] at hsep
          have hsl : ((bts s a).take (k + 1)).length = k + 1 := by rw [List.length_take, htl.out]; omega
          have hpc := str_piece s a (k + 1) (by omega)
          have hmem : ∀ x ∈ (bts s a).take (k + 1), 0 ≤ x ∧ x < 256 := fun x hx => bts_mem s a x (List.mem_of_mem_take hx)
          have ST := hide hsep
          have VT := hide hst
          have SL := hide hsl
          have PC := hide hpc
          have ME := hide hmem
          clear hsep hst hsl hpc hmem HH HG
          by_cases hz : v + b % 128 * wor k ≤ 2000000000000
          · have hd : decide (2000000000000 < v + b % 128 * wor k) = false := by simp; omega
            have hzl := zag_lo (v + b % 128 * wor k) (by omega) hz
            have hvc := fun wx => l1Varint_any (zag (v + b % 128 * wor k)) wx hzl.1 hzl.2
            rw [zig_zag _ (by omega)] at hvc
            have hdec : vd (v + b % 128 * wor k) = (bts s a).take (k + 1) ↔ strOfNums (vd (v + b % 128 * wor k)) = s.extract a (a + k + 1) :=
              ⟨fun h => by rw [h]; exact PC.out, fun h => str_inj (vdf_byte 5 _ (by omega) (by simp [wor]; omega)) ME.out (h.trans PC.out.symm)⟩
            obtain ⟨A, hA⟩ : ∃ A, A = strOfNums (vd (v + b % 128 * wor k)) := ⟨_, rfl⟩
            rw [← hA] at hvc hdec
            have VC := hide hvc
            have DE := hide hdec
            clear hA hvc hdec
            by_cases hAB : A = s.extract a (a + k + 1)
            · have hcmp : (A.toList == (s.extract a (a + k + 1)).toList) = true := by rw [hAB]; simp
              have HQ := hide hAB
              clear hAB
              go_wp2_with (go_at_call 79; refine (l1Zag_any _ _ (by omega) (by omega)).mono ?_; rintro e w' ⟨rfl, rfl⟩)
              go_region_held3 (fun _ => True) (trivial) ((go_at_call 65; refine (unhide VC _).mono ?_; rintro e w1 ⟨rfl, hb⟩))
              go_wp2
              go_ret2
              rw [ST.out, if_pos ⟨hz, DE.out.2 HQ.out⟩, lgRes_some VT.out SL.out]
              exact ⟨rfl, (Below.drew (Below.refl _ _)).trans (by assumption)⟩
            · have hcmp : (A.toList == (s.extract a (a + k + 1)).toList) = false := by
                apply Bool.eq_false_iff.2
                intro h
                exact hAB (L1.toList_inj (eq_of_beq h))
              have HN := hide hAB
              clear hAB
              go_wp2_with (go_at_call 79; refine (l1Zag_any _ _ (by omega) (by omega)).mono ?_; rintro e w' ⟨rfl, rfl⟩)
              go_region_held3 (fun _ => True) (trivial) ((go_at_call 65; refine (unhide VC _).mono ?_; rintro e w1 ⟨rfl, hb⟩))
              go_wp2
              go_ret2
              rw [ST.out, if_neg (fun h => HN.out (DE.out.1 h.2))]
              exact ⟨rfl, (Below.drew (Below.refl _ _)).trans (by assumption)⟩
          · have hz' : 2000000000000 < v + b % 128 * wor k := by omega
            have hd : decide (2000000000000 < v + b % 128 * wor k) = true := by simp; omega
            go_wp2_with (go_at_call 79; refine (l1Zag_any _ _ (by omega) (by omega)).mono ?_; rintro e w' ⟨rfl, rfl⟩)
            go_quiet (fail)
            go_wp2
            go_ret2
            rw [ST.out, if_neg (by omega)]
            exact ⟨rfl, below_drewN (Below.refl _ _) _⟩
        · go_wp2
          go_round
          case rel =>
            refine ⟨k + 1, by omega, by omega, by go_num, ?_, ?_, ?_, ?_⟩
            · show Value.int .i64 (wor k * 128) = .int .i64 (128 * wor k)
              rw [Int.mul_comm]
            · rw [val_take _ _ (by rw [htl.out]; omega), ← HB.out, ← HV.out]
            · exact hi_take (by rw [htl.out]; omega) HH.out (by rw [← HB.out]; omega) (by rw [← HB.out]; exact hb1)
            · by_cases h6 : k < 6
              · exact HG.out.trans (gvf_on (by rw [htl.out]; omega) h6 (by rw [← HB.out]; omega))
              · rw [HG.out]
                show _ = _
                rw [gvf_six (by omega), gvf_six (by omega)]
          case measure => simp [intOf]; omega
      · have hend := gvf_six (t := bts s a) (k := k) (by omega)
        rw [← HG.out] at hend
        have h7J : ¬ (a : Int) + (k : Int) < (a : Int) + 7 := by omega
        have hlI : (a : Int) + (k : Int) < (s.size : Int) := by omega
        have HE := hide hend
        clear hend
        go_wp2
        go_ret2
        rw [HE.out]
        exact ⟨rfl, Below.refl _ _⟩
    · have hend := gvf_end (t := bts s a) (k := k) (by rw [htl.out]; omega)
      rw [← HG.out] at hend
      have hlI : ¬ (a : Int) + (k : Int) < (s.size : Int) := by omega
      have HE := hide hend
      clear hend
      go_wp2
      go_ret2
      rw [HE.out]
      exact ⟨rfl, Below.refl _ _⟩
end Go.Proofs.YtbcljhafdpnjbabDoor.L1

namespace Go.Proofs.YtbcljhafdpnjbabDoor.L6
open Go.RowKit L1
set_option linter.unusedVariables false

set_option maxRecDepth 100000 in
set_option maxHeartbeats 400000 in
theorem l1In_any (x lo hi : Int) (w : World) (b : Bool) (hb : b = true ↔ lo ≤ x ∧ x ≤ hi) :
    Calls Tryd.prog 54 #[.int .i64 x, .int .i64 lo, .int .i64 hi] w fun e w' => e = .returned (.bool b) ∧ w = w' := by
  by_cases h1 : lo ≤ x
  · by_cases h2 : x ≤ hi
    · obtain rfl : b = true := hb.2 ⟨h1, h2⟩
      clear hb
      go_enter Tryd.func54, Tryd.ntmps54
      go_wp2
      go_ret
      exact ⟨rfl, rfl⟩
    · obtain rfl : b = false := by
        cases b with
        | false => rfl
        | true => exact absurd (hb.1 rfl).2 h2
      clear hb
      go_enter Tryd.func54, Tryd.ntmps54
      go_wp2
      go_ret
      exact ⟨rfl, rfl⟩
  · obtain rfl : b = false := by
      cases b with
      | false => rfl
      | true => exact absurd (hb.1 rfl).1 h1
    clear hb
    go_enter Tryd.func54, Tryd.ntmps54
    go_wp2
    go_ret
    exact ⟨rfl, rfl⟩

set_option maxRecDepth 100000 in
set_option maxHeartbeats 2000000 in
theorem l6Starts_any (s : ByteArray) (w : World) (hs : s.size ≤ 1048576) :
    Calls Tryd.prog 55 #[.string s] w fun e w' => ∃ v, e = .returned (.tuple #[v, .int .i64 (wh s : Nat)]) ∧ w'.ownsRow w.heap.size 3 1 v (cnt s) ((st s).map (Value.int .i64)) ∧ Below w.heap.size w w' := by
  obtain ⟨i0, hi, hz0, hz1, hz2⟩ := info_parts info_int
  have hcl := cnt_le s
  go_enter Tryd.func55, Tryd.ntmps55
  go_wp2
  go_loopw [4, 5] (fun o i wr => ∃ j : Nat, j ≤ cnt s ∧ i = .int .i64 (pl s 0 j : Nat) ∧ wr.ownsRow w.heap.size 3 1 o j ((stk s j).map (Value.int .i64)) ∧ Below w.heap.size w wr) (fun _ i _ => s.size - (intOf i).toNat)
  case atStart => exact ⟨0, by omega, rfl, World.ownsRow_nil _ _ _ _, Below.refl _ _⟩
  case round =>
    obtain ⟨j, hj, rfl, hown, hbel⟩ := hrel
    obtain ⟨b1, q1, rfl, _, _⟩ := own_form hown
    have hpl := pl_le s j
    by_cases hlt : j < cnt s
    · obtain ⟨c, n, hrc, hnx⟩ := cnt_rc s j hlt
      have hpl2 := pl_le s (j + 1)
      have hps := pl_lt s j hlt
      have hsk := stk_succ s j
      obtain ⟨l, hg, hz, hc, hn, hle⟩ := rc_gv hrc
      have hps2 : pl s 0 j < s.size := by omega
      have C := hide (l1Get_any s (pl s 0 j) wr hps2 hs)
      rw [hg] at C
      simp only [lgRes, hz, ← hc] at C
      have CI := hide (fun w => l1In_any (n : Int) 0 20 w true (by simp; omega))
      obtain ⟨p, hp⟩ : ∃ p, p = pl s 0 j := ⟨_, rfl⟩
      obtain ⟨q, hq⟩ : ∃ q, q = pl s 0 (j + 1) := ⟨_, rfl⟩
      rw [← hp] at C hpl hps hsk hps2
      rw [← hq] at hpl2 hps hnx
      rw [← hp]
      have hpI : (p : Int) < (s.size : Int) := by omega
      have hc0 : ¬ (c : Int) < 0 := by omega
      have hn0 : ¬ (s.size : Int) - (c : Int) < (n : Int) := by omega
      have hqq : (c : Int) + (n : Int) = (q : Int) := by omega
      have HSK := hide hsk
      have HQ := hide hq
      have O := hide hown
      have B := hide hbel
      have hp' := hide hp
      clear hrc hnx hsk hq hown hbel hp hg hz hc hle
      go_wp2_with fail
      refine C.out.mono ?_
      rintro e w1 ⟨rfl, hb1⟩
      have O1 := hide (own_below O.out hb1)
      have B1 := hide (B.out.trans (hb1.mono B.out.size))
      clear hb1
      go_wp2_with fail
      refine (CI.out _).mono ?_
      rintro e w2 ⟨rfl, rfl⟩
      go_wp2_with (first
        | (at_builtin; refine wpList_append_own _ rfl _ _ 48 rfl w.heap.size 3 i0 (.int .i64 0) 1 8 Tryd.underlying48 hi hz0 hz1 hz2 rfl (by decide) _ _ _ rfl (O1.out.alloc _) ⟨w1.heap.size, 0, none⟩ 1 1 [.int .i64 (p : Int)] rfl rfl (cell_one_new _ _ _) (by intro u hu; simp at hu; subst hu; rfl) (by unfold maxLen; omega) (by omega) (by have := B1.out.size; simp; omega) ?_)
        | go_in)
      intro v6 w6 h6 g6 _
      have hbase : w.heap.size ≤ (w1.alloc (.cells #[.int .i64 (p : Int)] 3)).heap.size := by have := B1.out.size; simp; omega
      have O6 : w6.ownsRow w.heap.size 3 1 v6 (j + 1) ((stk s (j + 1)).map (Value.int .i64)) := by
        rw [HSK.out, List.map_append]
        exact h6
      have B6 := (B1.out.alloc (Nat.le_trans B1.out.size (Nat.le_refl _)) _).grown g6 hbase (fun k hk => (O1.out.lt k hk).1)
      have HR := hide (And.intro O6 B6)
      obtain ⟨a6, c6, rfl, _, _⟩ := own_form O6
      clear h6 g6 O6 B6 hbase
      go_wp2
      go_roundw
      case rel => exact ⟨j + 1, by omega, by rw [HQ.out], HR.out⟩
      case measure => simp [intOf]; omega
    · obtain rfl : j = cnt s := by omega
      have hrc := cnt_no s
      obtain ⟨p, hp⟩ : ∃ p, p = pl s 0 (cnt s) := ⟨_, rfl⟩
      rw [← hp] at hpl hrc
      rw [← hp]
      have E : Hid (wh s = p) := hp.symm
      have O := hide hown
      have B := hide hbel
      clear hp hown hbel
      by_cases hps2 : p < s.size
      · have hpI : (p : Int) < (s.size : Int) := by omega
        have C := hide (l1Get_any s p wr hps2 hs)
        cases hg : gv (bts s p) with
        | none =>
          rw [hg] at C
          simp only [lgRes] at C
          clear hg hrc
          go_wp2_with fail
          refine C.out.mono ?_
          rintro e w1 ⟨rfl, hb1⟩
          have O1 := hide (own_below O.out hb1)
          have B1 := hide (B.out.trans (hb1.mono B.out.size))
          clear hb1
          go_wp2
          go_ret2
          exact ⟨_, by rw [E.out]; rfl, O1.out, B1.out⟩
        | some l =>
          rw [hg] at C
          simp only [lgRes] at C
          have hf := gv_form (bts_mem s p) hg
          have hz := zag_lo (val l) (val_nonneg l) hf.2
          have hl := gv_some hg
          rw [bts_len] at hl
          have hno : ¬ (0 ≤ zag (val l) ∧ zag (val l) ≤ 20 ∧ zag (val l) ≤ (s.size : Int) - ((p + l.length : Nat) : Int)) := by
            intro hc
            unfold rc at hrc
            rw [hg] at hrc
            simp only [if_pos hc] at hrc
            cases hrc
          obtain ⟨z, hzz⟩ : ∃ z, z = zag (val l) := ⟨_, rfl⟩
          obtain ⟨e, hee⟩ : ∃ e, e = p + l.length := ⟨_, rfl⟩
          rw [← hzz] at C hz hno
          rw [← hee] at C hno
          have he : e ≤ s.size := by omega
          have he0 : ¬ (e : Int) < 0 := by omega
          clear hg hf hl hzz hee hrc
          by_cases h1 : 0 ≤ z ∧ z ≤ 20
          · have h3 : (s.size : Int) - (e : Int) < z := by omega
            have CI := hide (fun w => l1In_any z 0 20 w true (by simp; omega))
            clear hno h1
            go_wp2_with fail
            refine C.out.mono ?_
            rintro e w1 ⟨rfl, hb1⟩
            have O1 := hide (own_below O.out hb1)
            have B1 := hide (B.out.trans (hb1.mono B.out.size))
            clear hb1
            go_wp2_with fail
            refine (CI.out _).mono ?_
            rintro e w2 ⟨rfl, rfl⟩
            go_wp2
            go_ret2
            exact ⟨_, by rw [E.out]; rfl, O1.out, B1.out⟩
          · have CI := hide (fun w => l1In_any z 0 20 w false (by simp; omega))
            clear hno h1
            go_wp2_with fail
            refine C.out.mono ?_
            rintro e w1 ⟨rfl, hb1⟩
            have O1 := hide (own_below O.out hb1)
            have B1 := hide (B.out.trans (hb1.mono B.out.size))
            clear hb1
            go_wp2_with fail
            refine (CI.out _).mono ?_
            rintro e w2 ⟨rfl, rfl⟩
            go_wp2
            go_ret2
            exact ⟨_, by rw [E.out]; rfl, O1.out, B1.out⟩
      · have hpI : ¬ (p : Int) < (s.size : Int) := by omega
        clear hrc
        go_wp2
        go_ret2
        exact ⟨_, by rw [E.out]; rfl, O.out, B.out⟩

set_option maxRecDepth 100000 in
set_option maxHeartbeats 2000000 in
theorem l6Index_any (s : ByteArray) (a : Option Addr) (n cap : Nat) (w : World) (hn : cnt s = n) (hn2 : n ≤ 1048576) (hs : Sl w a (st s)) :
    Calls Tryd.prog 73 #[.slice a n cap] w fun e w' => ∃ v, e = .returned v ∧ w'.ownsRow w.heap.size 3 1 v (ix s).length ((ix s).map (Value.int .i64)) ∧ Below w.heap.size w w' := by
  obtain ⟨i0, hi, hz0, hz1, hz2⟩ := info_parts info_int
  have HS := hide hs
  have HN := hide hn
  clear hs hn
  go_enter Tryd.func73, Tryd.ntmps73
  go_wp2
  go_loopw [3, 8] (fun o i wr => ∃ j : Nat, j ≤ n ∧ i = .int .i64 j ∧ wr.ownsRow w.heap.size 3 1 o ((j + 2) / 3) ((ixk s ((j + 2) / 3)).map (Value.int .i64)) ∧ Below w.heap.size w wr) (fun _ i _ => n - (intOf i).toNat)
  case atStart => exact ⟨0, by omega, rfl, World.ownsRow_nil _ _ _ _, Below.refl _ _⟩
  case round =>
    obtain ⟨j, hj, rfl, hown, hbel⟩ := hrel
    obtain ⟨b1, q1, rfl, _, _⟩ := own_form hown
    by_cases hlt : j < n
    · obtain ⟨b, off, rfl, hc0⟩ := HS.out j (by rw [stk_len, HN.out]; exact hlt)
      have hc := (hbel.cell (p := ⟨b, off + j, none⟩) (blk_lt hc0)).trans hc0
      rw [stk_get s (cnt s) j (by rw [HN.out]; exact hlt)] at hc
      have hltI : (j : Int) < (n : Int) := by omega
      have hj0 : (0 : Int) ≤ (j : Int) := by omega
      by_cases h3 : j % 3 = 0
      · have hm : (j : Int).tmod 3 = 0 := by rw [Int.tmod_eq_emod_of_nonneg (by omega)]; omega
        have hsk := ixk_succ s (j / 3)
        have ej : 3 * (j / 3) = j := by omega
        rw [ej] at hsk
        have ek : (j + 2) / 3 = j / 3 := by omega
        have ek2 : (j + 1 + 2) / 3 = j / 3 + 1 := by omega
        rw [ek] at hown ⊢
        obtain ⟨k, hk⟩ : ∃ k, k = j / 3 := ⟨_, rfl⟩
        rw [← hk] at hown hsk ek2 ⊢
        obtain ⟨p, hp⟩ : ∃ p : Int, p = (pl s 0 j : Int) := ⟨_, rfl⟩
        rw [← hp] at hc hsk
        have HSK := hide hsk
        have HK := hide ek2
        have O := hide hown
        have B := hide hbel
        have hkn : k ≤ n := by omega
        clear hsk hown hbel hp hc0 ek ek2 ej hk
        go_wp2_with (first
          | (at_builtin; refine wpList_append_own _ rfl _ _ 48 rfl w.heap.size 3 i0 (.int .i64 0) 1 8 Tryd.underlying48 hi hz0 hz1 hz2 rfl (by decide) _ _ _ rfl (O.out.alloc _) ⟨wr.heap.size, 0, none⟩ 1 1 [.int .i64 p] rfl rfl (cell_one_new _ _ _) (by intro u hu; simp at hu; subst hu; rfl) (by unfold maxLen; omega) (by omega) (by have := B.out.size; simp; omega) ?_)
          | go_in)
        intro v6 w6 h6 g6 _
        have hbase : w.heap.size ≤ (wr.alloc (.cells #[.int .i64 p] 3)).heap.size := by have := B.out.size; simp; omega
        have O6 : w6.ownsRow w.heap.size 3 1 v6 (k + 1) ((ixk s (k + 1)).map (Value.int .i64)) := by
          rw [HSK.out, List.map_append]
          exact h6
        have B6 := (B.out.alloc (Nat.le_trans B.out.size (Nat.le_refl _)) _).grown g6 hbase (fun k hk => (O.out.lt k hk).1)
        have HR := hide (And.intro O6 B6)
        obtain ⟨a6, c6, rfl, _, _⟩ := own_form O6
        clear h6 g6 O6 B6 hbase
        go_wp2
        go_roundw
        case rel => exact ⟨j + 1, by omega, by go_num, by rw [HK.out]; exact HR.out⟩
        case measure => simp [intOf]; omega
      · have hm : ¬ (j : Int).tmod 3 = 0 := by rw [Int.tmod_eq_emod_of_nonneg (by omega)]; omega
        have ek2 : (j + 1 + 2) / 3 = (j + 2) / 3 := by omega
        obtain ⟨p, hp⟩ : ∃ p : Int, p = (pl s 0 j : Int) := ⟨_, rfl⟩
        rw [← hp] at hc
        obtain ⟨k, hk⟩ : ∃ k, k = (j + 2) / 3 := ⟨_, rfl⟩
        rw [← hk] at hown ek2 ⊢
        have HK := hide ek2
        have O := hide hown
        have B := hide hbel
        clear hown hbel hp hc0 ek2 hk
        go_wp2
        go_roundw
        case rel => exact ⟨j + 1, by omega, by go_num, by rw [HK.out]; exact ⟨O.out, B.out⟩⟩
        case measure => simp [intOf]; omega
    · obtain rfl : j = n := by omega
      have hltI : ¬ (j : Int) < (j : Int) := by omega
      have E : ixk s ((j + 2) / 3) = ix s := by unfold ix; rw [HN.out]
      have E2 : (ix s).length = (j + 2) / 3 := by rw [← E, ixk_len]
      rw [E, ← E2] at hown
      rw [← E2]
      have O := hide hown
      clear E E2 hown
      go_wp2
      go_ret
      exact ⟨_, rfl, O.out, hbel⟩
end Go.Proofs.YtbcljhafdpnjbabDoor.L6
