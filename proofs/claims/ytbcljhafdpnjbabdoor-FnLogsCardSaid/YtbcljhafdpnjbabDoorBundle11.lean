/-
  Small facts on lists of ints that chapter 4's contracts and walks share. Nothing of the program's text is proved here but closed facts on its types.
  Contract of the laws' own helper sameInts: it says that two lists of ints alike are alike.
  Contracts: laws.sameTexts, laws.samePieces: lists of texts, and logs, that are alike are alike.
  Contract: impl.AppendLog where the last piece has room.
  Contract: impl.AppendLog where no piece has room and none is left.
  Contract: impl.AppendLog.
  Contract: impl.EndOf.
  Contract: impl.ReadAt.
-/
import Derived.Test.YtbcljhafdpnjbabDoorBundle1
import Derived.Test.YtbcljhafdpnjbabDoorBundle10
import Derived.Maps.AppendAt
import Derived.Deep.QuietTactic
import Derived.BigQuiet
import Derived.Test.YtbcljhafdpnjbabDoorBundle3
import Derived.Test.YtbcljhafdpnjbabDoorBundle7
import Derived.Deep.RegionHeld3
import Derived.Test.YtbcljhafdpnjbabDoorBundle8
import Derived.Test.YtbcljhafdpnjbabDoorBundle9
import Derived.Test.YtbcljhafdpnjbabDoorBundle5
import Derived.Deep.RegionWith
import Derived.Deep.DeepCutAuto
namespace Go.Proofs.YtbcljhafdpnjbabDoor.L4
open Go.RowKit L1
set_option linter.unusedVariables false

theorem own_belowT {w w' : World} {base n : Nat} {t : TypeId} {c : Nat} {v : Value} {ys : List Value} (h : w.ownsRow base t c v n ys) (hb : Below w.heap.size w w') : w'.ownsRow base t c v n ys := by
  refine ⟨h.1, ?_⟩
  rcases h.2 with h0 | ⟨g, cap, cur, rfl, hbg, hg, r⟩
  · exact .inl h0
  · exact .inr ⟨g, cap, cur, rfl, hbg, by rw [hb.block g (Array.getElem?_eq_some_iff.1 hg).1]; exact hg, r⟩
theorem own_baseT {w : World} {b c n size : Nat} {e : TypeId} {v : Value} {xs : List Value} (h : w.ownsRow c e size v n xs) (hbc : b ≤ c) : w.ownsRow b e size v n xs := by
  refine ⟨h.1, ?_⟩
  rcases h.2 with h0 | ⟨g, cap, cur, hv, hg, r⟩
  · exact .inl h0
  · exact .inr ⟨g, cap, cur, hv, Nat.le_trans hbc hg, r⟩
theorem own_some {w : World} {base n c : Nat} {t : TypeId} {v : Value} {xs : List Value} (h : w.ownsRow base t c v n xs) (hv : ¬ v = .slice none 0 0) : ∃ g cap, v = .slice (some ⟨g, 0, none⟩) n cap ∧ n ≤ cap ∧ cap ≤ maxLen := by
  rcases h.2 with ⟨hv', h0⟩ | ⟨g, cap, cur, hv', _, _, hc, hm, _⟩
  · exact absurd hv' hv
  · exact ⟨g, cap, hv', hc, hm⟩
theorem own_shapeT {w : World} {base n c : Nat} {t : TypeId} {v : Value} {xs : List Value} (h : w.ownsRow base t c v n xs) : ∃ a cap, v = .slice a n cap := by
  rcases h.2 with ⟨hv, h0⟩ | ⟨g, cap, cur, hv, _⟩
  · exact ⟨none, 0, by rw [hv, h0]⟩
  · exact ⟨_, cap, hv⟩
theorem bool_noT {b : Bool} {p : Prop} (h : b = true ↔ p) (hp : ¬ p) : b = false := by
  cases b with
  | false => rfl
  | true => exact absurd (h.1 rfl) hp
theorem own_neG {w : World} {base n cap g c : Nat} {t : TypeId} {a : Option Addr} {xs : List Value} (h : w.ownsRow base t c (.slice a n cap) n xs) (hg : g < base) : (Value.slice a n cap).ownBlock = none ∨ (Value.slice a n cap).ownBlock ≠ some g := by
  cases a with
  | none => exact .inl rfl
  | some x =>
    refine .inr fun e => ?_
    have := (h.lt g e).1
    omega
theorem sl_baseI {w w' : World} {a : Option Addr} {xs : List Int} {base : Nat} (h : Sl w a xs) (hb : Below base w w') (hlt : ∀ x, a = some x → x.block < base) : Sl w' a xs := fun i hi => by
  obtain ⟨b, off, ha, hc⟩ := h i hi
  exact ⟨b, off, ha, (hb.cell (p := ⟨b, off + i, none⟩) (hlt ⟨b, off, none⟩ ha)).trans hc⟩
theorem own_slI {w : World} {base n cap : Nat} {a : Option Addr} {xs : List Int} (h : w.ownsRow base 3 1 (.slice a n cap) n (xs.map (Value.int .i64))) : Sl w a xs := by
  obtain ⟨b, q, e, s, _⟩ := own_form h
  cases e
  exact s
theorem cell_one_new (w : World) (p : Value) (t : TypeId) : ∀ j u, [p][j]? = some u → (w.alloc (.cells #[p] t)).cell? ((⟨w.heap.size, 0, none⟩ : Addr).add j) = some u := by
  intro j u h
  rw [addr_add]
  match j, h with
  | 0, h => simp at h; subst h; simp
  | j + 1, h => simp at h
theorem ints_one (xs : List Int) : ∀ u ∈ xs.map (Value.int .i64), u.oneCell' = true := fun u hu => by
  obtain ⟨x, _, rfl⟩ := List.mem_map.1 hu
  rfl
theorem add_at (b off i : Nat) : (⟨b, off, none⟩ : Addr).add i = ⟨b, off + i, none⟩ := by unfold Addr.add; split <;> simp_all
/-- What lies from a place on. -/
theorem sl_seg {w : World} {b off : Nat} {xs : List Int} (h : Sl w (some ⟨b, off, none⟩) xs) (f m : Nat) : ∀ j u, (((xs.drop f).take m).map (Value.int .i64))[j]? = some u → w.cell? ((⟨b, off + f, none⟩ : Addr).add j) = some u := fun j u hu => by
  rw [add_at]
  rw [List.getElem?_map, List.getElem?_take] at hu
  split at hu
  · rw [List.getElem?_drop] at hu
    by_cases hj : f + j < xs.length
    · have := h.at (f + j) hj
      rw [List.getElem?_eq_getElem hj] at hu
      simp only [Option.map_some, Option.some.injEq] at hu
      rw [← hu, Nat.add_assoc, this, getD_eq hj]
    · rw [List.getElem?_eq_none (by omega)] at hu
      simp at hu
  · simp at hu
end Go.Proofs.YtbcljhafdpnjbabDoor.L4

namespace Go.Proofs.YtbcljhafdpnjbabDoor.L4
open Go.RowKit L1
set_option linter.unusedVariables false

set_option maxRecDepth 100000 in
set_option maxHeartbeats 1000000 in
theorem sameInts_any (a b : Option Addr) (xs : List Int) (n c1 c2 : Nat) (w : World) (hn : xs.length = n) (ha : Sl w a xs) (hb : Sl w b xs) (hn2 : n ≤ 1048576) :
    Calls Tryd.prog 28 #[.slice a n c1, .slice b n c2] w fun e w' => e = .returned (.bool true) ∧ Below w.heap.size w w' := by
  have HA := hide ha
  have HB := hide hb
  have HN := hide hn
  clear ha hb hn
  go_enter Tryd.func28, Tryd.ntmps28
  go_wp2
  go_loopw [13] (fun i wr => ∃ k : Nat, k ≤ n ∧ i = .int .i64 k ∧ Below w.heap.size w wr) (fun i _ => n - (intOf i).toNat)
  case atStart => exact ⟨0, Nat.zero_le _, rfl, Below.refl _ _⟩
  case round =>
    obtain ⟨k, hk, rfl, hbel⟩ := hrel
    by_cases hlt : k < n
    · obtain ⟨b1, o1, rfl, h1⟩ := HA.out k (by rw [HN.out]; exact hlt)
      obtain ⟨b2, o2, rfl, h2⟩ := HB.out k (by rw [HN.out]; exact hlt)
      have g1 := (hbel.cell (p := ⟨b1, o1 + k, none⟩) (blk_lt h1)).trans h1
      have g2 := (hbel.cell (p := ⟨b2, o2 + k, none⟩) (blk_lt h2)).trans h2
      obtain ⟨x, hx⟩ : ∃ x, x = xs.getD k 0 := ⟨_, rfl⟩
      rw [← hx] at g1 g2
      have hltI : (k : Int) < (n : Int) := by omega
      have hk0 : (0 : Int) ≤ (k : Int) := by omega
      clear h1 h2 hx
      go_wp2
      go_quiet (fail)
      go_wp2
      go_roundw
      case rel => exact ⟨k + 1, by omega, by go_num, below_drewN hbel _⟩
      case measure => simp [intOf]; omega
    · have hltI : ¬ (k : Int) < (n : Int) := by omega
      go_wp2
      go_ret
      exact ⟨rfl, hbel⟩
end Go.Proofs.YtbcljhafdpnjbabDoor.L4

namespace Go.Proofs.YtbcljhafdpnjbabDoor.L6
open Go.RowKit L1
set_option linter.unusedVariables false

theorem below_drewY {N : Nat} {w w' : World} (h : Below N w w') : ∀ q, Below N w (w'.drewN q)
  | 0 => h
  | q + 1 => (below_drewY h q).drew
set_option maxRecDepth 100000 in
set_option maxHeartbeats 1000000 in
theorem sameTexts_same (a b : Option Addr) (xs : List ByteArray) (n c1 c2 : Nat) (w : World) (hn : xs.length = n) (ha : SlT w a xs) (hb : SlT w b xs) (hn2 : n ≤ 1048576) :
    Calls Tryd.prog 13 #[.slice a n c1, .slice b n c2] w fun e w' => e = .returned (.bool true) ∧ Below w.heap.size w w' := by
  have HA := hide ha
  have HB := hide hb
  have HN := hide hn
  clear ha hb hn
  go_enter Tryd.func13, Tryd.ntmps13
  go_wp2
  go_loopw [13] (fun i wr => ∃ k : Nat, k ≤ n ∧ i = .int .i64 k ∧ Below w.heap.size w wr) (fun i _ => n - (intOf i).toNat)
  case atStart => exact ⟨0, Nat.zero_le _, rfl, Below.refl _ _⟩
  case round =>
    obtain ⟨k, hk, rfl, hbel⟩ := hrel
    by_cases hlt : k < n
    · obtain ⟨b1, o1, rfl, h1⟩ := HA.out k (by rw [HN.out]; exact hlt)
      obtain ⟨b2, o2, rfl, h2⟩ := HB.out k (by rw [HN.out]; exact hlt)
      have g1 := (hbel.cell (p := ⟨b1, o1 + k, none⟩) (blk_lt h1)).trans h1
      have g2 := (hbel.cell (p := ⟨b2, o2 + k, none⟩) (blk_lt h2)).trans h2
      obtain ⟨x, hx⟩ : ∃ x, x = xs.getD k e0 := ⟨_, rfl⟩
      rw [← hx] at g1 g2
      have hltI : (k : Int) < (n : Int) := by omega
      have hk0 : (0 : Int) ≤ (k : Int) := by omega
      clear h1 h2 hx
      go_wp2
      go_quiet (fail)
      go_wp2
      go_roundw
      case rel => exact ⟨k + 1, by omega, by go_num, below_drewY hbel _⟩
      case measure => simp [intOf]; omega
    · have hltI : ¬ (k : Int) < (n : Int) := by omega
      go_wp2
      go_ret
      exact ⟨rfl, hbel⟩
theorem blk_lt8 {w : World} {p : Addr} {v : Value} (h : w.cell? p = some v) : p.block < w.heap.size := by
  by_cases hb : p.block < w.heap.size
  · exact hb
  · simp [World.cell?, Array.getElem?_eq_none (show w.heap.size ≤ p.block by omega)] at h
theorem keep8P {wa wb W : World} {N : Nat} {p0 p1 p2 p3 p4 p5 p6 p7 : Addr} {v0 v1 v2 v3 v4 v5 v6 v7 : Value} (h : (wa.cell? p0 = some v0 ∧ wa.cell? p1 = some v1 ∧ wa.cell? p2 = some v2 ∧ wa.cell? p3 = some v3 ∧ wa.cell? p4 = some v4 ∧ wa.cell? p5 = some v5 ∧ wa.cell? p6 = some v6 ∧ wa.cell? p7 = some v7) ∧ Below N W wa) (hb : Below wa.heap.size wa wb) (hN : N ≤ W.heap.size) : (wb.cell? p0 = some v0 ∧ wb.cell? p1 = some v1 ∧ wb.cell? p2 = some v2 ∧ wb.cell? p3 = some v3 ∧ wb.cell? p4 = some v4 ∧ wb.cell? p5 = some v5 ∧ wb.cell? p6 = some v6 ∧ wb.cell? p7 = some v7) ∧ Below N W wb := by
  obtain ⟨⟨h0, h1, h2, h3, h4, h5, h6, h7⟩, hz⟩ := h
  exact ⟨⟨(hb.cell (blk_lt8 h0)).trans h0, (hb.cell (blk_lt8 h1)).trans h1, (hb.cell (blk_lt8 h2)).trans h2, (hb.cell (blk_lt8 h3)).trans h3, (hb.cell (blk_lt8 h4)).trans h4, (hb.cell (blk_lt8 h5)).trans h5, (hb.cell (blk_lt8 h6)).trans h6, (hb.cell (blk_lt8 h7)).trans h7⟩, hz.trans (hb.mono (Nat.le_trans hN hz.size))⟩

set_option maxRecDepth 100000 in
set_option maxHeartbeats 4000000 in
theorem samePieces_same (a b : Option Addr) (L : List Pc) (n c1 c2 : Nat) (B : Int) (w : World) (hn : L.length = n) (ha : SlC w a L) (hb : SlC w b L) (hn2 : n ≤ 1048576) (hsz : ∀ i, i < n → (gc L i).x.length ≤ 1048576) :
    Calls Tryd.prog 12 #[.agg #[.slice a n c1, .int .i64 B], .agg #[.slice b n c2, .int .i64 B]] w fun e w' => e = .returned (.bool true) ∧ Below w.heap.size w w' := by
  have HA := hide ha
  have HB := hide hb
  have HN := hide hn
  have HSZ := hide hsz
  clear ha hb hn hsz
  have hal : Below w.heap.size w ((w.alloc (.cells #[.slice a n c1, .int .i64 B] 25 (0, 0))).alloc (.cells #[.slice b n c2, .int .i64 B] 25 (0, 0))) := ((Below.refl _ _).alloc (Nat.le_refl _) _).alloc (by simp) _
  have HAL := hide hal
  clear hal
  go_enter Tryd.func12, Tryd.ntmps12
  go_wp2
  go_loopw [23] (fun i wr => ∃ k : Nat, k ≤ n ∧ i = .int .i64 k ∧ wr.cell? ⟨w.heap.size, 0, none⟩ = some (.slice a n c1) ∧ wr.cell? ⟨w.heap.size + 1, 0, none⟩ = some (.slice b n c2) ∧ Below w.heap.size w wr) (fun i _ => n - (intOf i).toNat)
  case atStart => exact ⟨0, Nat.zero_le _, rfl, by simp, by simp, HAL.out⟩
  case round =>
    obtain ⟨k, hk, rfl, d1, d2, hbel⟩ := hrel
    by_cases hlt : k < n
    · obtain ⟨b1, o1, rfl, x1, q1, h1⟩ := HA.out.below hbel k (by rw [HN.out]; exact hlt)
      obtain ⟨b2, o2, rfl, x2, q2, h2⟩ := HB.out.below hbel k (by rw [HN.out]; exact hlt)
      have hxl := HSZ.out k hlt
      have g0 := h1.f
      have g1 := h1.s
      have g2 := h1.x
      have g3 := h2.f
      have g4 := h2.s
      have g5 := h2.x
      have t1 := h1.l
      have t2 := h2.l
      obtain ⟨p, hp⟩ : ∃ p, p = gc L k := ⟨_, rfl⟩
      rw [show L.getD k eC = p from hp.symm] at g0 g1 g2 g3 g4 g5 t1 t2
      rw [← hp] at hxl
      obtain ⟨f, s, x⟩ := p
      simp only at g0 g1 g2 g3 g4 g5 t1 t2 hxl
      obtain ⟨m, hm⟩ : ∃ m, m = x.length := ⟨_, rfl⟩
      rw [← hm] at g2 g5 hxl
      have hltI : (k : Int) < (n : Int) := by omega
      have hk0 : (0 : Int) ≤ (k : Int) := by omega
      have C := hide (fun wx (hb : Below wr.heap.size wr wx) => L4.sameInts_any x1 x2 x m q1 q2 wx hm.symm (t1.below hb) (t2.below hb) hxl)
      clear h1 h2 hp hm t1 t2
      go_wp2
      refine wp_region_held_drew (S := fun wx => (wx.cell? ⟨w.heap.size, 0, none⟩ = some (.slice (some ⟨b1, o1, none⟩) n c1) ∧ wx.cell? ⟨w.heap.size + 1, 0, none⟩ = some (.slice (some ⟨b2, o2, none⟩) n c2) ∧ wx.cell? ⟨b1, o1 + k * 3, none⟩ = some (.int .i64 f) ∧ wx.cell? ⟨b1, o1 + k * 3 + 1, none⟩ = some (.string s) ∧ wx.cell? ⟨b1, o1 + k * 3 + 2, none⟩ = some (.slice x1 m q1) ∧ wx.cell? ⟨b2, o2 + k * 3, none⟩ = some (.int .i64 f) ∧ wx.cell? ⟨b2, o2 + k * 3 + 1, none⟩ = some (.string s) ∧ wx.cell? ⟨b2, o2 + k * 3 + 2, none⟩ = some (.slice x2 m q2)) ∧ Below wr.heap.size wr wx) (by kernel_rfl) ⟨⟨d1, d2, g0, g1, g2, g3, g4, g5⟩, (Below.refl _ _).drew⟩ (fun hHeld => ?_)
      refine wpAnyH_take (i := 0) (v := ?v1) rfl (by kernel_rfl) (by kernel_rfl) (by kernel_rfl) (fun _ _ _ h => h) (Or.inl ⟨by rfl, ?y1⟩) (by assumption) ?r1
      case y1 => (intro w hSw; (try dsimp only at hSw); go_simp; try (with_reducible rfl))
      simp only [List.getElem_toArray, List.getElem_cons_zero, Act.put, List.setIfInBounds_toArray, List.set_cons_zero, List.set_cons_succ]
      refine wpAnyH_take (i := 1) (v := ?v2) rfl (by kernel_rfl) (by kernel_rfl) (by kernel_rfl) (fun _ _ _ h => h) (Or.inl ⟨by rfl, ?y2⟩) (by assumption) ?r2
      case y2 => (intro w hSw; (try dsimp only at hSw); go_simp; try (with_reducible rfl))
      simp only [List.getElem_toArray, List.getElem_cons_succ, List.getElem_cons_zero, Act.put, List.setIfInBounds_toArray, List.set_cons_zero, List.set_cons_succ]
      refine wpAnyH_take (i := 2) (v := ?v3) rfl (by kernel_rfl) (by kernel_rfl) (by kernel_rfl) (fun _ _ _ h => h) (Or.inl ⟨by rfl, ?y3⟩) (by assumption) ?r3
      case y3 => (intro w hSw; (try dsimp only at hSw); go_simp; try (with_reducible rfl))
      simp only [List.getElem_toArray, List.getElem_cons_succ, List.getElem_cons_zero, Act.put, List.setIfInBounds_toArray, List.set_cons_zero, List.set_cons_succ]
      refine wpAnyH_take (i := 3) (v := ?v4) rfl (by kernel_rfl) (by kernel_rfl) (by kernel_rfl) (fun _ _ _ h => h) (Or.inl ⟨by rfl, ?y4⟩) (by assumption) ?r4
      case y4 => (intro w hSw; (try dsimp only at hSw); go_simp; try (with_reducible rfl))
      simp only [List.getElem_toArray, List.getElem_cons_succ, List.getElem_cons_zero, Act.put, List.setIfInBounds_toArray, List.set_cons_zero, List.set_cons_succ]
      refine wpAnyH_take (i := 4) (v := ?v5) rfl (by kernel_rfl) (by kernel_rfl) (by kernel_rfl) (fun _ _ _ h => h) (Or.inl ⟨by rfl, ?y5⟩) (by assumption) ?r5
      case y5 => (intro w hSw; (try dsimp only at hSw); go_simp; try (with_reducible rfl))
      simp only [List.getElem_toArray, List.getElem_cons_succ, List.getElem_cons_zero, Act.put, List.setIfInBounds_toArray, List.set_cons_zero, List.set_cons_succ]
      refine wpAnyH_take (i := 5) (v := ?v6) rfl (by kernel_rfl) (by kernel_rfl) (by kernel_rfl) (fun _ _ _ h => h) (Or.inl ⟨by rfl, ?y6⟩) (by assumption) ?r6
      case y6 => (intro w hSw; (try dsimp only at hSw); go_simp; try (with_reducible rfl))
      simp only [List.getElem_toArray, List.getElem_cons_succ, List.getElem_cons_zero, Act.put, List.setIfInBounds_toArray, List.set_cons_zero, List.set_cons_succ]
      refine wpAnyH_take (i := 6) (v := ?v7) rfl (by kernel_rfl) (by kernel_rfl) (by kernel_rfl) (fun _ _ _ h => h) (Or.inl ⟨by rfl, ?y7⟩) (by assumption) ?r7
      case y7 => (intro w hSw; (try dsimp only at hSw); go_simp; try (with_reducible rfl))
      simp only [List.getElem_toArray, List.getElem_cons_succ, List.getElem_cons_zero, Act.put, List.setIfInBounds_toArray, List.set_cons_zero, List.set_cons_succ]
      refine wpAnyH_take (i := 7) (v := ?v8) rfl (by kernel_rfl) (by kernel_rfl) (by kernel_rfl) (fun _ _ _ h => h) (Or.inl ⟨by rfl, ?y8⟩) (by assumption) ?r8
      case y8 => (intro w hSw; (try dsimp only at hSw); go_simp; try (with_reducible rfl))
      simp only [List.getElem_toArray, List.getElem_cons_succ, List.getElem_cons_zero, Act.put, List.setIfInBounds_toArray, List.set_cons_zero, List.set_cons_succ]
      refine wpAnyH_take (i := 8) (v := ?v9) rfl (by kernel_rfl) (by kernel_rfl) (by kernel_rfl) (fun _ _ _ h => h) (Or.inl ⟨by rfl, ?y9⟩) (by assumption) ?r9
      case y9 => (intro w hSw; (try dsimp only at hSw); go_simp; try (with_reducible rfl))
      simp only [List.getElem_toArray, List.getElem_cons_succ, List.getElem_cons_zero, Act.put, List.setIfInBounds_toArray, List.set_cons_zero, List.set_cons_succ]
      refine wpAnyH_take (i := 9) (v := ?v10) rfl (by kernel_rfl) (by kernel_rfl) (by kernel_rfl) (fun _ _ _ h => h) (Or.inl ⟨by rfl, ?y10⟩) (by assumption) ?r10
      case y10 => (intro w hSw; (try dsimp only at hSw); go_simp; try (with_reducible rfl))
      simp only [List.getElem_toArray, List.getElem_cons_succ, List.getElem_cons_zero, Act.put, List.setIfInBounds_toArray, List.set_cons_zero, List.set_cons_succ]
      refine wpAnyH_take (i := 10) (v := ?v11) rfl (by kernel_rfl) (by kernel_rfl) (by kernel_rfl) (fun _ _ _ h => h) (Or.inl ⟨by rfl, ?y11⟩) (by assumption) ?r11
      case y11 => (intro w hSw; (try dsimp only at hSw); go_simp; try (with_reducible rfl))
      simp only [List.getElem_toArray, List.getElem_cons_succ, List.getElem_cons_zero, Act.put, List.setIfInBounds_toArray, List.set_cons_zero, List.set_cons_succ]
      refine wpAnyH_take (i := 11) (v := ?v12) rfl (by kernel_rfl) (by kernel_rfl) (by kernel_rfl) (fun _ _ _ h => h) (Or.inl ⟨by rfl, ?y12⟩) (by assumption) ?r12
      case y12 => (intro w hSw; (try dsimp only at hSw); go_simp; try (with_reducible rfl))
      simp only [List.getElem_toArray, List.getElem_cons_succ, List.getElem_cons_zero, Act.put, List.setIfInBounds_toArray, List.set_cons_zero, List.set_cons_succ]
      refine wpAnyH_take (i := 12) (v := ?v13) rfl (by kernel_rfl) (by kernel_rfl) (by kernel_rfl) (fun _ _ _ h => h) (Or.inl ⟨by rfl, ?y13⟩) (by assumption) ?r13
      case y13 => (intro w hSw; (try dsimp only at hSw); go_simp; try (with_reducible rfl))
      simp only [List.getElem_toArray, List.getElem_cons_succ, List.getElem_cons_zero, Act.put, List.setIfInBounds_toArray, List.set_cons_zero, List.set_cons_succ]
      refine wpAnyH_take (i := 13) (v := ?v14) rfl (by kernel_rfl) (by kernel_rfl) (by kernel_rfl) (fun _ _ _ h => h) (Or.inl ⟨by rfl, ?y14⟩) (by assumption) ?r14
      case y14 => (intro w hSw; (try dsimp only at hSw); go_simp; try (with_reducible rfl))
      simp only [List.getElem_toArray, List.getElem_cons_succ, List.getElem_cons_zero, Act.put, List.setIfInBounds_toArray, List.set_cons_zero, List.set_cons_succ]
      refine wpAnyH_take (i := 14) (v := ?v15) rfl (by kernel_rfl) (by kernel_rfl) (by kernel_rfl) (fun _ _ _ h => h) (Or.inl ⟨by rfl, ?y15⟩) (by assumption) ?r15
      case y15 => (intro w hSw; (try dsimp only at hSw); go_simp; try (with_reducible rfl))
      simp only [List.getElem_toArray, List.getElem_cons_succ, List.getElem_cons_zero, Act.put, List.setIfInBounds_toArray, List.set_cons_zero, List.set_cons_succ]
      refine wpAnyH_take (i := 15) (v := ?v16) rfl (by kernel_rfl) (by kernel_rfl) (by kernel_rfl) (fun _ _ _ h => h) (Or.inl ⟨by rfl, ?y16⟩) (by assumption) ?r16
      case y16 => (intro w hSw; (try dsimp only at hSw); go_simp; try (with_reducible rfl))
      simp only [List.getElem_toArray, List.getElem_cons_succ, List.getElem_cons_zero, Act.put, List.setIfInBounds_toArray, List.set_cons_zero, List.set_cons_succ]
      refine wpAnyH_take (i := 16) (v := ?v17) rfl (by kernel_rfl) (by kernel_rfl) (by kernel_rfl) (fun _ _ _ h => h) (Or.inl ⟨by rfl, ?y17⟩) (by assumption) ?r17
      case y17 => (intro w hSw; (try dsimp only at hSw); go_simp; try (with_reducible rfl))
      simp only [List.getElem_toArray, List.getElem_cons_succ, List.getElem_cons_zero, Act.put, List.setIfInBounds_toArray, List.set_cons_zero, List.set_cons_succ]
      refine wpAnyH_take (i := 17) (v := ?v18) rfl (by kernel_rfl) (by kernel_rfl) (by kernel_rfl) (fun _ _ _ h => h) (Or.inl ⟨by rfl, ?y18⟩) (by assumption) ?r18
      case y18 => (intro w hSw; (try dsimp only at hSw); go_simp; try (with_reducible rfl))
      simp only [List.getElem_toArray, List.getElem_cons_succ, List.getElem_cons_zero, Act.put, List.setIfInBounds_toArray, List.set_cons_zero, List.set_cons_succ]
      refine wpAnyH_take (i := 18) (v := ?v19) rfl (by kernel_rfl) (by kernel_rfl) (by kernel_rfl) (fun _ _ _ h => h) (Or.inl ⟨by rfl, ?y19⟩) (by assumption) ?r19
      case y19 => (intro w hSw; (try dsimp only at hSw); go_simp; try (with_reducible rfl))
      simp only [List.getElem_toArray, List.getElem_cons_succ, List.getElem_cons_zero, Act.put, List.setIfInBounds_toArray, List.set_cons_zero, List.set_cons_succ]
      refine wpAnyH_take (i := 19) (v := ?v20) rfl (by kernel_rfl) (by kernel_rfl) (by kernel_rfl) (fun _ _ _ h => h) (Or.inl ⟨by rfl, ?y20⟩) (by assumption) ?r20
      case y20 => (intro w hSw; (try dsimp only at hSw); go_simp; try (with_reducible rfl))
      simp only [List.getElem_toArray, List.getElem_cons_succ, List.getElem_cons_zero, Act.put, List.setIfInBounds_toArray, List.set_cons_zero, List.set_cons_succ]
      refine wpAnyH_take (i := 20) (v := ?v21) rfl (by kernel_rfl) (by kernel_rfl) (by kernel_rfl) (fun _ _ _ h => h) (Or.inl ⟨by rfl, ?y21⟩) (by assumption) ?r21
      case y21 => (intro w hSw; (try dsimp only at hSw); go_simp; try (with_reducible rfl))
      simp only [List.getElem_toArray, List.getElem_cons_succ, List.getElem_cons_zero, Act.put, List.setIfInBounds_toArray, List.set_cons_zero, List.set_cons_succ]
      refine wpAnyH_take (i := 21) (v := ?v22) rfl (by kernel_rfl) (by kernel_rfl) (by kernel_rfl) (fun _ _ _ h => h) (Or.inl ⟨by rfl, ?y22⟩) (by assumption) ?r22
      case y22 => (intro w hSw; (try dsimp only at hSw); go_simp; try (with_reducible rfl))
      simp only [List.getElem_toArray, List.getElem_cons_succ, List.getElem_cons_zero, Act.put, List.setIfInBounds_toArray, List.set_cons_zero, List.set_cons_succ]
      refine wpAnyH_take (i := 22) (v := ?v23) rfl (by kernel_rfl) (by kernel_rfl) (by kernel_rfl) (fun _ _ _ h => h) (Or.inl ⟨by rfl, ?y23⟩) (by assumption) ?r23
      case y23 => (intro w hSw; (try dsimp only at hSw); go_simp; try (with_reducible rfl))
      simp only [List.getElem_toArray, List.getElem_cons_succ, List.getElem_cons_zero, Act.put, List.setIfInBounds_toArray, List.set_cons_zero, List.set_cons_succ]
      refine wpAnyH_take (i := 23) (v := ?v24) rfl (by kernel_rfl) (by kernel_rfl) (by kernel_rfl) (fun _ _ _ h => h) (Or.inl ⟨by rfl, ?y24⟩) (by assumption) ?r24
      case y24 => (intro w hSw; (try dsimp only at hSw); go_simp; try (with_reducible rfl))
      simp only [List.getElem_toArray, List.getElem_cons_succ, List.getElem_cons_zero, Act.put, List.setIfInBounds_toArray, List.set_cons_zero, List.set_cons_succ]
      refine wpAnyH_take (i := 24) (v := ?v25) rfl (by kernel_rfl) (by kernel_rfl) (by kernel_rfl) (fun _ _ _ h => h) (Or.inl ⟨by rfl, ?y25⟩) (by assumption) ?r25
      case y25 => (intro w hSw; (try dsimp only at hSw); go_simp; try (with_reducible rfl))
      simp only [List.getElem_toArray, List.getElem_cons_succ, List.getElem_cons_zero, Act.put, List.setIfInBounds_toArray, List.set_cons_zero, List.set_cons_succ]
      refine wpAnyH_take (i := 25) (v := ?v26) rfl (by kernel_rfl) (by kernel_rfl) (by kernel_rfl) (fun _ _ _ h => h) (Or.inl ⟨by rfl, ?y26⟩) (by assumption) ?r26
      case y26 => (intro w hSw; (try dsimp only at hSw); go_simp; try (with_reducible rfl))
      simp only [List.getElem_toArray, List.getElem_cons_succ, List.getElem_cons_zero, Act.put, List.setIfInBounds_toArray, List.set_cons_zero, List.set_cons_succ]
      refine wpAnyH_take (i := 26) (v := ?v27) rfl (by kernel_rfl) (by kernel_rfl) (by kernel_rfl) (fun _ _ _ h => h) (Or.inl ⟨by rfl, ?y27⟩) (by assumption) ?r27
      case y27 => (intro w hSw; (try dsimp only at hSw); go_simp; try (with_reducible rfl))
      simp only [List.getElem_toArray, List.getElem_cons_succ, List.getElem_cons_zero, Act.put, List.setIfInBounds_toArray, List.set_cons_zero, List.set_cons_succ]
      refine wpAnyH_take (i := 27) (v := ?v28) rfl (by kernel_rfl) (by kernel_rfl) (by kernel_rfl) (fun _ _ _ h => h) (Or.inl ⟨by rfl, ?y28⟩) (by assumption) ?r28
      case y28 => (intro w hSw; (try dsimp only at hSw); go_simp; try (with_reducible rfl))
      simp only [List.getElem_toArray, List.getElem_cons_succ, List.getElem_cons_zero, Act.put, List.setIfInBounds_toArray, List.set_cons_zero, List.set_cons_succ]
      refine wpAnyH_take (i := 28) (v := ?v29) rfl (by kernel_rfl) (by kernel_rfl) (by kernel_rfl) (fun _ _ _ h => h) (Or.inl ⟨by rfl, ?y29⟩) (by assumption) ?r29
      case y29 => (intro w hSw; (try dsimp only at hSw); go_simp; try (with_reducible rfl))
      simp only [List.getElem_toArray, List.getElem_cons_succ, List.getElem_cons_zero, Act.put, List.setIfInBounds_toArray, List.set_cons_zero, List.set_cons_succ]
      refine wpAnyH_take (i := 29) (v := ?v30) rfl (by kernel_rfl) (by kernel_rfl) (by kernel_rfl) (fun _ _ _ h => h) (Or.inl ⟨by rfl, ?y30⟩) (by assumption) ?r30
      case y30 => (intro w hSw; (try dsimp only at hSw); go_simp; try (with_reducible rfl))
      simp only [List.getElem_toArray, List.getElem_cons_succ, List.getElem_cons_zero, Act.put, List.setIfInBounds_toArray, List.set_cons_zero, List.set_cons_succ]
      refine wpAnyH_take (i := 30) (v := ?v31) rfl (by kernel_rfl) (by kernel_rfl) (by kernel_rfl) (fun _ _ _ h => h) (Or.inl ⟨by rfl, ?y31⟩) (by assumption) ?r31
      case y31 => (intro w hSw; (try dsimp only at hSw); go_simp; try (with_reducible rfl))
      simp only [List.getElem_toArray, List.getElem_cons_succ, List.getElem_cons_zero, Act.put, List.setIfInBounds_toArray, List.set_cons_zero, List.set_cons_succ]
      refine wpAnyH_take (i := 31) (v := ?v32) rfl (by kernel_rfl) (by kernel_rfl) (by kernel_rfl) (fun _ _ _ h => h) (Or.inl ⟨by rfl, ?y32⟩) (by assumption) ?r32
      case y32 => (intro w hSw; (try dsimp only at hSw); go_simp; try (with_reducible rfl))
      simp only [List.getElem_toArray, List.getElem_cons_succ, List.getElem_cons_zero, Act.put, List.setIfInBounds_toArray, List.set_cons_zero, List.set_cons_succ]
      refine wpAnyH_take (i := 32) (v := ?v33) rfl (by kernel_rfl) (by kernel_rfl) (by kernel_rfl) (fun _ _ _ h => h) (Or.inl ⟨by rfl, ?y33⟩) (by assumption) ?r33
      case y33 => (intro w hSw; (try dsimp only at hSw); go_simp; try (with_reducible rfl))
      simp only [List.getElem_toArray, List.getElem_cons_succ, List.getElem_cons_zero, Act.put, List.setIfInBounds_toArray, List.set_cons_zero, List.set_cons_succ]
      refine wpAnyH_take (i := 33) (v := ?v34) rfl (by kernel_rfl) (by kernel_rfl) (by kernel_rfl) (fun _ _ _ h => h) (Or.inl ⟨by rfl, ?y34⟩) (by assumption) ?r34
      case y34 => (intro w hSw; (try dsimp only at hSw); go_simp; try (with_reducible rfl))
      simp only [List.getElem_toArray, List.getElem_cons_succ, List.getElem_cons_zero, Act.put, List.setIfInBounds_toArray, List.set_cons_zero, List.set_cons_succ]
      refine wpAnyH_take (i := 34) (v := ?v35) rfl (by kernel_rfl) (by kernel_rfl) (by kernel_rfl) (fun _ _ _ h => h) (Or.inl ⟨by rfl, ?y35⟩) (by assumption) ?r35
      case y35 => (intro w hSw; (try dsimp only at hSw); go_simp; try (with_reducible rfl))
      simp only [List.getElem_toArray, List.getElem_cons_succ, List.getElem_cons_zero, Act.put, List.setIfInBounds_toArray, List.set_cons_zero, List.set_cons_succ]
      refine wpAnyH_take (i := 35) (v := ?v36) rfl (by kernel_rfl) (by kernel_rfl) (by kernel_rfl) (fun _ _ _ h => h) (Or.inl ⟨by rfl, ?y36⟩) (by assumption) ?r36
      case y36 => (intro w hSw; (try dsimp only at hSw); go_simp; try (with_reducible rfl))
      simp only [List.getElem_toArray, List.getElem_cons_succ, List.getElem_cons_zero, Act.put, List.setIfInBounds_toArray, List.set_cons_zero, List.set_cons_succ]
      refine wpAnyH_take (i := 36) (v := ?v37) rfl (by kernel_rfl) (by kernel_rfl) (by kernel_rfl) (fun _ _ _ h => h) (Or.inl ⟨by rfl, ?y37⟩) (by assumption) ?r37
      case y37 => (intro w hSw; (try dsimp only at hSw); go_simp; try (with_reducible rfl))
      simp only [List.getElem_toArray, List.getElem_cons_succ, List.getElem_cons_zero, Act.put, List.setIfInBounds_toArray, List.set_cons_zero, List.set_cons_succ]
      refine wpAnyH_take (i := 37) (v := ?v38) rfl (by kernel_rfl) (by kernel_rfl) (by kernel_rfl) (fun _ _ _ h => h) (Or.inl ⟨by rfl, ?y38⟩) (by assumption) ?r38
      case y38 => (intro w hSw; (try dsimp only at hSw); go_simp; try (with_reducible rfl))
      simp only [List.getElem_toArray, List.getElem_cons_succ, List.getElem_cons_zero, Act.put, List.setIfInBounds_toArray, List.set_cons_zero, List.set_cons_succ]
      refine wpAnyH_take (i := 38) (v := ?v39) rfl (by kernel_rfl) (by kernel_rfl) (by kernel_rfl) (fun _ _ _ h => h) (Or.inl ⟨by rfl, ?y39⟩) (by assumption) ?r39
      case y39 => (intro w hSw; (try dsimp only at hSw); go_simp; try (with_reducible rfl))
      simp only [List.getElem_toArray, List.getElem_cons_succ, List.getElem_cons_zero, Act.put, List.setIfInBounds_toArray, List.set_cons_zero, List.set_cons_succ]
      refine wpAnyH_take (i := 39) (v := ?v40) rfl (by kernel_rfl) (by kernel_rfl) (by kernel_rfl) (fun _ _ _ h => h) (Or.inl ⟨by rfl, ?y40⟩) (by assumption) ?r40
      case y40 => (intro w hSw; (try dsimp only at hSw); go_simp; try (with_reducible rfl))
      simp only [List.getElem_toArray, List.getElem_cons_succ, List.getElem_cons_zero, Act.put, List.setIfInBounds_toArray, List.set_cons_zero, List.set_cons_succ]
      refine wpAnyH_take (i := 40) (v := ?v41) rfl (by kernel_rfl) (by kernel_rfl) (by kernel_rfl) (fun _ _ _ h => h) (Or.inl ⟨by rfl, ?y41⟩) (by assumption) ?r41
      case y41 => (intro w hSw; (try dsimp only at hSw); go_simp; try (with_reducible rfl))
      simp only [List.getElem_toArray, List.getElem_cons_succ, List.getElem_cons_zero, Act.put, List.setIfInBounds_toArray, List.set_cons_zero, List.set_cons_succ]
      refine wpAnyH_ready (rs := [41]) (by kernel_rfl) (by simp) ?_
      refine AllReadyH.cons rfl (fun K hK => ?_) AllReadyH.nil
      simp only [List.getElem_toArray, List.getElem_cons_succ, List.getElem_cons_zero]
      go_simp
      go_at_call 28
      refine (C.out _ hHeld.2).mono ?_
      rintro e w1 ⟨rfl, hb⟩
      dsimp only
      refine hK.out _ _ ?_ (fun hHeld => ?_)
      · exact keep8P hHeld hb (Nat.le_refl _)
      clear hK K
      try simp only [Act.put, List.setIfInBounds_toArray, List.set_cons_zero, List.set_cons_succ]
      refine wpAnyH_take (i := 42) (v := ?v42) rfl (by kernel_rfl) (by kernel_rfl) (by kernel_rfl) (fun _ _ _ h => h) (Or.inl ⟨by rfl, ?y42⟩) (by assumption) ?r42
      case y42 => (intro w hSw; (try dsimp only at hSw); go_simp; try (with_reducible rfl))
      simp only [List.getElem_toArray, List.getElem_cons_succ, List.getElem_cons_zero, Act.put, List.setIfInBounds_toArray, List.set_cons_zero, List.set_cons_succ]
      refine wpAnyH_take (i := 43) (v := ?v43) rfl (by kernel_rfl) (by kernel_rfl) (by kernel_rfl) (fun _ _ _ h => h) (Or.inl ⟨by rfl, ?y43⟩) (by assumption) ?r43
      case y43 => (intro w hSw; (try dsimp only at hSw); go_simp; try (with_reducible rfl))
      simp only [List.getElem_toArray, List.getElem_cons_succ, List.getElem_cons_zero, Act.put, List.setIfInBounds_toArray, List.set_cons_zero, List.set_cons_succ]
      refine wpAnyH_done (by kernel_rfl) ?_ _
      have B1 := hide (hbel.trans (hHeld.2.mono hbel.size))
      have d3 := hHeld.1.1
      have d4 := hHeld.1.2.1
      clear hHeld d1 d2 g0 g1 g2 g3 g4 g5
      go_wp2
      go_roundw
      case rel => exact ⟨k + 1, by omega, by go_num, d3, d4, B1.out⟩
      case measure => simp [intOf]; omega
    · have hltI : ¬ (k : Int) < (n : Int) := by omega
      go_wp2
      go_ret
      exact ⟨rfl, hbel⟩
end Go.Proofs.YtbcljhafdpnjbabDoor.L6

namespace Go.Proofs.YtbcljhafdpnjbabDoor.L6
open Go.RowKit L1
set_option linter.unusedVariables false

/-- The copy with its last piece written over. -/
structure PutAt (w : World) (base go g n m : Nat) (B : Int) (M : List PV) (p : Pc) (wx : World) : Prop where
  own : ∃ u, OwC wx base (.slice (some ⟨g, 0, none⟩) n n) n (M.set m (p, u))
  bel : Below w.heap.size w wx
  res : wx.heap[w.heap.size + 1]? = some (.cells #[.slice none 0 0, .int .i64 0] 25 (0, 0))
  out : wx.heap[go]? = some (.cells #[.slice (some ⟨g, 0, none⟩) n n, .int .i64 B] 25 (0, 0))

open Classical in
set_option maxRecDepth 100000 in
set_option maxHeartbeats 4000000 in
theorem implAppend_yes (a : Option Addr) (L : List Pc) (n cap : Nat) (B : Int) (r : ByteArray) (w : World) (hn : L.length = n) (hm : n ≤ 9223372036854775807) (hs : SlC w a L) (hst : TxC L) (ht : Tab w) (hp : AppPre L B r) (hf : AppFits L r) :
    Calls Tryd.prog 6 #[.agg #[.slice a n cap, .int .i64 B], .string r] w (RetL w (L.set (L.length - 1) (appP (endP L) r)) B true) := by
  obtain ⟨L', hL'⟩ : ∃ L', L' = L.set (L.length - 1) (appP (endP L) r) := ⟨_, rfl⟩
  rw [← hL']
  have HL' := hide hL'
  clear hL'
  have hg := hp.1
  have hr20 := hp.2.1
  have h60 := hp.2.2
  rw [hn] at h60
  have C1 := hide (fun wx (hb : Below w.heap.size w wx) => goodLog_any a L n cap B wx hn hm (hs.below hb) hst (ht.below hb) true (by simp; exact hg))
  have hla := hg.logAt hn hs ht
  have C2 := hide (fun wx (hb : Below w.heap.size w wx) => recordsIn_any a L n cap B wx (hla.below hb))
  have hn1 : 1 ≤ n := hla.one
  have hn20 : n ≤ 20 := hla.few
  have hsm : ∀ i, i < n → (gc L i).x.length ≤ 60 := fun i hi => by
    have hgd := (hg.ps i (by omega)).1
    rw [hgd.2.2]
    exact ix_len60 hgd.1
  have C3 := hide (fun wx (hb : Below w.heap.size w wx) => putVarint_yes (r.size : Int) wx (by omega) (by omega) (ht.below hb))
  have C4 := hide (fun wx (hb : Below w.heap.size w wx) => copyLog_any a L n cap B wx hn hn1 hn20 (hs.below hb) hsm)
  obtain ⟨E0, hE0⟩ : ∃ E0, E0 = lastEnd L n - (gc L 0).f := ⟨_, rfl⟩
  rw [← hE0] at C2 h60
  have hE6 : (E0 == 60) = false := by simp only [beq_eq_false_iff_ne]; exact h60
  have hr20' : ¬ (20 : Int) < (r.size : Int) := by omega
  obtain ⟨P, hP⟩ : ∃ P, P = strOfNums (vd (zig (r.size : Int))) := ⟨_, rfl⟩
  rw [← hP] at C3
  obtain ⟨R, hR⟩ : ∃ R, R = rec r := ⟨_, rfl⟩
  have hPr : P ++ r = R := by rw [hR, hP]; rfl
  have hRs : R.size = 1 + r.size := by rw [hR]; exact rec_size r hr20
  have hPs : P.size + r.size = R.size := by rw [← hPr, ByteArray.size_append]
  have qa : ∀ w : World, (Op.stringOp .add P r).run Tryd.prog w = .ok (.string R) w := fun w => by rw [← hPr]; exact run_string_add_sum w _ _ (by omega)
  have HS := hide hs
  have HN := hide hn
  have HG := hide hg
  have HT := hide ht
  have HF := hide hf
  have HRR := hide hR
  clear hs hn hg hst ht hp hf hla hsm hE0 hP hR hPr
  go_enter Tryd.func6, Tryd.ntmps6
  go_wp2_with fail
  refine (C1.out _ (((Below.refl _ _).alloc (Nat.le_refl _) _).alloc (by simp) _)).mono ?_
  rintro e v1 ⟨rfl, hb1⟩
  have G1 : Hid (v1.heap[w.heap.size + 1]? = some (.cells #[.slice none 0 0, .int .i64 0] 25 (0, 0))) := (hb1.block (w.heap.size + 1) (by simp)).trans (blk_second w _ _)
  have H1 : Hid (v1.heap[w.heap.size]? = some (.cells #[.slice a n cap, .int .i64 B] 25 (0, 0))) := (hb1.block w.heap.size (by simp only [World.size_alloc]; omega)).trans (blk_first w _ _)
  obtain ⟨k0, k1, _, _⟩ := blkp H1.out
  have B1 := hide ((((Below.refl w.heap.size w).alloc (Nat.le_refl _) (.cells #[.slice a n cap, .int .i64 B] 25 (0, 0))).alloc (by simp) (.cells #[.slice none 0 0, .int .i64 0] 25 (0, 0))).trans (hb1.mono (by simp; omega)))
  clear hb1
  go_wp2_with fail
  refine (C2.out _ B1.out).mono ?_
  rintro e v2 ⟨rfl, hb2⟩
  have B2 := hide (B1.out.trans (hb2.mono B1.out.size))
  have hs1 : w.heap.size + 1 < v1.heap.size := (Array.getElem?_eq_some_iff.1 G1.out).1
  have hs2 := hb2.size
  have G2 : Hid (v2.heap[w.heap.size + 1]? = some (.cells #[.slice none 0 0, .int .i64 0] 25 (0, 0))) := (hb2.block _ hs1).trans G1.out
  have H2 : Hid (v2.heap[w.heap.size]? = some (.cells #[.slice a n cap, .int .i64 B] 25 (0, 0))) := (hb2.block _ (by omega)).trans H1.out
  clear k0 k1 hb2
  go_wp2_with fail
  refine (C3.out _ B2.out).mono ?_
  rintro e w0 ⟨rfl, hb3⟩
  have B3 := hide (B2.out.trans (hb3.mono B2.out.size))
  have hs3 := hb3.size
  have G3 : Hid (w0.heap[w.heap.size + 1]? = some (.cells #[.slice none 0 0, .int .i64 0] 25 (0, 0))) := (hb3.block _ (by omega)).trans G2.out
  have H3 : Hid (w0.heap[w.heap.size]? = some (.cells #[.slice a n cap, .int .i64 B] 25 (0, 0))) := (hb3.block _ (by omega)).trans H2.out
  obtain ⟨k0, k1, _, _⟩ := blkp H3.out
  clear hb3
  go_wp2_with fail
  refine (C4.out _ B3.out).mono ?_
  rintro e w1 ⟨g, M, rfl, hM, ho, hb4⟩
  have B4 := hide (B3.out.trans (hb4.mono B3.out.size))
  have hs4 := hb4.size
  have G4 : Hid (w1.heap[w.heap.size + 1]? = some (.cells #[.slice none 0 0, .int .i64 0] 25 (0, 0))) := (hb4.block _ (by omega)).trans G3.out
  have hgb := own_ltC ho.row g rfl
  have hml := ho.len
  obtain ⟨m, hm'⟩ : ∃ m, m = n - 1 := ⟨_, rfl⟩
  have hnm : (n : Int) - 1 = (m : Int) := by omega
  have hmn : (m : Int) < (n : Int) := by omega
  have hm0 : (0 : Int) ≤ (m : Int) := by omega
  have hmN : m < n := by omega
  obtain ⟨f1, f2, f3⟩ := flatC_get M m (by omega)
  have hp1 : (M.getD m eV).1 = gc L m := by
    have := pcs_get M m (by omega)
    rw [hM] at this
    exact this.symm
  rw [hp1] at f1 f2
  have hfl : (flatC M).length = n * 3 := by rw [flatC_len, hml]
  have d1 := (ho.row.cellAt (m * 3) (by omega)).trans f1
  have d2 := (ho.row.cellAt (m * 3 + 1) (by omega)).trans f2
  have hlp : endP L = gc L m := by show gc L (L.length - 1) = _; rw [HN.out, hm']
  have hgp := (HG.out.ps m (by rw [HN.out]; exact hmN)).1
  have hfit := HF.out
  unfold AppFits at hfit
  rw [hlp] at hfit
  have hwy := appP_whole hgp hr20
  obtain ⟨p, hp⟩ : ∃ p, p = gc L m := ⟨_, rfl⟩
  rw [← hp] at d1 d2 hlp hgp hfit hwy
  obtain ⟨f, s, x⟩ := p
  simp only at d1 d2 hfit hwy
  rw [← HRR.out] at hwy
  obtain ⟨Y, hY⟩ : ∃ Y, Y = s ++ R := ⟨_, rfl⟩
  rw [← hY] at hwy
  have hYs : Y.size = s.size + R.size := by rw [hY, ByteArray.size_append]
  have q2 : ∀ w : World, (Op.stringOp .add s R).run Tryd.prog w = .ok (.string Y) w := fun w => by rw [hY]; exact run_string_add_sum w _ _ (by omega)
  have hY60 : (Y.size : Int) ≤ 60 := by omega
  generalize hW : w1.alloc (.cells #[.slice (some ⟨g, 0, none⟩) n n, .int .i64 B] 25 (0, 0)) = W
  have BW : Below w1.heap.size w1 W := by rw [← hW]; exact (Below.refl _ _).alloc (Nat.le_refl _) _
  have GO : Hid (W.heap[w1.heap.size]? = some (.cells #[.slice (some ⟨g, 0, none⟩) n n, .int .i64 B] 25 (0, 0))) := by show _ = _; rw [← hW]; exact blk_new _ _
  obtain ⟨o0, o1, o2, o3⟩ := blkp GO.out
  have G5 : Hid (W.heap[w.heap.size + 1]? = some (.cells #[.slice none 0 0, .int .i64 0] 25 (0, 0))) := (BW.block _ (by omega)).trans G4.out
  have e1 := (BW.cell (p := ⟨g, m * 3, none⟩) (blk_lt d1)).trans d1
  have e2 := (BW.cell (p := ⟨g, m * 3 + 1, none⟩) (blk_lt d2)).trans d2
  have B5 := hide (B4.out.trans (BW.mono B4.out.size))
  have HO5 := hide (ho.below BW)
  have HM := hide hM
  have HLP := hide hlp
  have HYY := hide hY
  have HWY := hide hwy
  have hwW : w1.heap.size < W.heap.size := (Array.getElem?_eq_some_iff.1 GO.out).1
  obtain ⟨z0, z1, z2, z3⟩ := blkp G5.out
  have HW := hide hW
  clear hW BW ho hM hlp hp1 f1 f2 f3 hfl hgp hwy hY hfit hb4 hm' hml hp d1 d2 k0 k1
  go_upto_region 9 with (first | (rw [HW.out]) | fail)
  first | rw [HW.out] | skip
  obtain ⟨N, hN⟩ : ∃ N, N = (ix Y).length := ⟨_, rfl⟩
  have C6 := hide (fun wx (hb : Below W.heap.size W wx) => (wholePiece_any f Y wx (by omega) (HT.out.below (B5.out.trans (hb.mono B5.out.size)))).mono (R' := fun e w2 => ∃ a2 q2, e = .returned (.agg #[.int .i64 f, .string Y, .slice a2 N q2]) ∧ (w2.ownsRow W.heap.size 3 1 (.slice a2 N q2) N ((ix Y).map (Value.int .i64)) ∧ Below W.heap.size W w2) ∧ (∃ u0 u1 u2, w2.cell? ⟨g, m * 3, none⟩ = some u0 ∧ w2.cell? ⟨g, m * 3 + 1, none⟩ = some u1 ∧ w2.cell? ⟨g, m * 3 + 2, none⟩ = some u2) ∧ (w2.frozen? ⟨g, m * 3, none⟩ = false ∧ w2.frozen? ⟨g, m * 3 + 1, none⟩ = false ∧ w2.frozen? ⟨g, m * 3 + 2, none⟩ = false) ∧ (w2.cell? ⟨w1.heap.size, 0, none⟩ = some (.slice (some ⟨g, 0, none⟩) n n) ∧ w2.cell? ⟨w1.heap.size, 1, none⟩ = some (.int .i64 B))) (by
    rintro e w2 ⟨v2, rfl, ho2, hb2⟩
    have hb3 := hb.trans (hb2.mono hb.size)
    rw [← hN] at ho2
    obtain ⟨a2, q2, rfl, _, _⟩ := own_form ho2
    rw [HWY.out.1]
    have R := (HO5.out.below hb3).row
    have hfl : (flatC M).length = n * 3 := by rw [flatC_len, HO5.out.len]
    refine ⟨a2, q2, rfl, ⟨own_baseC ho2 hb.size, hb3⟩, ⟨_, _, _, (R.cellAt (m * 3) (by omega)).trans (List.getElem?_eq_getElem (by omega)), (R.cellAt (m * 3 + 1) (by omega)).trans (List.getElem?_eq_getElem (by omega)), (R.cellAt (m * 3 + 2) (by omega)).trans (List.getElem?_eq_getElem (by omega))⟩, ⟨R.frozenAt _, R.frozenAt _, R.frozenAt _⟩, ?_⟩
    obtain ⟨o0, o1, _, _⟩ := blkp ((hb3.block w1.heap.size (Array.getElem?_eq_some_iff.1 GO.out).1).trans GO.out)
    exact ⟨o0, o1⟩))
  have HNN := hide hN
  have hw0W : w0.heap.size ≤ W.heap.size := by omega
  have PP : Hid (∀ w2 a2 q2, (w2.ownsRow W.heap.size 3 1 (.slice a2 N q2) N ((ix Y).map (Value.int .i64)) ∧ Below W.heap.size W w2) → PutAt w w0.heap.size w1.heap.size g n m B M ⟨f, Y, ix Y⟩ (((w2.setCell ⟨g, m * 3, none⟩ (.int .i64 f)).setCell ⟨g, m * 3 + 1, none⟩ (.string Y)).setCell ⟨g, m * 3 + 2, none⟩ (.slice a2 N q2))) := by
    intro w2 a2 q2 h
    have P := (HO5.out.below h.2).put m hmN ⟨f, Y, ix Y⟩ (.slice a2 N q2) (by show w2.ownsRow _ _ _ _ (ix Y).length _; rw [← HNN.out]; exact own_baseC h.1 hw0W) (fun i hi _ bb hbb e => by
      have h1 := (own_ltC h.1 bb hbb).1
      have h2 := (own_ltC (HO5.out.idx i hi) bb e).2
      omega)
    have hs9 := h.2.size
    exact ⟨⟨_, P.1⟩, (B5.out.trans (h.2.mono B5.out.size)).grown P.2 (Nat.le_trans B5.out.size hs9) (fun q hq => by cases hq; omega), (P.2.block (w.heap.size + 1) (by omega) (by simp; omega)).trans ((h.2.block _ (by omega)).trans G5.out), (P.2.block w1.heap.size (by omega) (by simp; omega)).trans ((h.2.block _ (by omega)).trans GO.out)⟩
  clear hN C1 C2 C3 C4
  go_cut [10] (fun t wx => t = .int .i64 m ∧ PutAt w w0.heap.size w1.heap.size g n m B M ⟨f, Y, ix Y⟩ wx)
  case first =>
    go_region_with (go_at_call 36; refine (C6.out _ ?_).mono ?_; (first | exact Below.refl _ _ | exact (Below.refl _ _).drew | exact ((Below.refl _ _).drew).drew); rintro e w2 ⟨a2, q2, rfl, ho2, ⟨u0, u1, u2, c0, c1, c2⟩, ⟨c3, c4, c5⟩, c6, c7⟩)
    all_goals (
      go_wp2_with fail
      go_meet
      case rel => exact ⟨rfl, PP.out _ _ _ ho2⟩)
  case rest =>
    obtain ⟨rfl, hta⟩ := hcut
    obtain ⟨u, hown⟩ := hta.own
    have hlen2 : (L.set m ⟨f, Y, ix Y⟩).length = n := by simpa using HN.out
    have hpc : pcs (M.set m (⟨f, Y, ix Y⟩, u)) = L.set m ⟨f, Y, ix Y⟩ := by rw [← HM.out]; show List.map _ _ = _; rw [List.map_set]
    have hnm1 : n - 1 = m := by omega
    have hL2 : L' = L.set m ⟨f, Y, ix Y⟩ := by
      rw [HL'.out, HN.out, hnm1]
      unfold appP
      rw [HLP.out, HYY.out, HRR.out]
    have HL2 := hide hL2
    have HLN := hide hlen2
    have HPC := hide hpc
    have HOW := hide hown
    have HTA := hide hta
    clear z0 z1 z2 z3 o0 o1 o2 o3 e1 e2
    obtain ⟨z0, z1, z2, z3⟩ := blkp hta.res
    obtain ⟨o0, o1, _, _⟩ := blkp hta.out
    have hlt0 : w.heap.size + 1 < w0.heap.size := by omega
    clear hta hown hpc hlen2 hL2 C6 PP
    go_wp2
    refine bodyPost_ret (v := .tuple #[.agg #[.slice (some ⟨g, 0, none⟩) n n, .int .i64 B], .bool true]) (by simp [results, Tryd.f6, go_sem, z0, z1]) rfl ⟨some ⟨g, 0, none⟩, n, by rw [HL2.out, HLN.out], M.set m (⟨f, Y, ix Y⟩, u), by rw [HL2.out]; exact HPC.out, ?_, ?_⟩
    · rw [HL2.out, HLN.out]
      exact ((HOW.out.setC ⟨_, _, none⟩ _ hlt0).setC ⟨_, _, none⟩ _ hlt0).base (by omega)
    · exact (HTA.out.bel.setCell (p := ⟨_, _, none⟩) (Nat.le_succ _) _).setCell (p := ⟨_, _, none⟩) (Nat.le_succ _) _
end Go.Proofs.YtbcljhafdpnjbabDoor.L6

namespace Go.Proofs.YtbcljhafdpnjbabDoor.L6
open Go.RowKit L1
set_option linter.unusedVariables false

open Classical in
set_option maxRecDepth 100000 in
set_option maxHeartbeats 4000000 in
theorem implAppend_full (a : Option Addr) (L : List Pc) (n cap : Nat) (B : Int) (r : ByteArray) (w : World) (hn : L.length = n) (hm : n ≤ 9223372036854775807) (hs : SlC w a L) (hst : TxC L) (ht : Tab w) (hp : AppPre L B r) (hf : ¬ AppFits L r) (hfull : L.length = 20) :
    Calls Tryd.prog 6 #[.agg #[.slice a n cap, .int .i64 B], .string r] w (RetL w [] 0 false) := by
  have hg := hp.1
  have hr20 := hp.2.1
  have h60 := hp.2.2
  rw [hn] at h60
  have C1 := hide (fun wx (hb : Below w.heap.size w wx) => goodLog_any a L n cap B wx hn hm (hs.below hb) hst (ht.below hb) true (by simp; exact hg))
  have hla := hg.logAt hn hs ht
  have C2 := hide (fun wx (hb : Below w.heap.size w wx) => recordsIn_any a L n cap B wx (hla.below hb))
  have hn1 : 1 ≤ n := hla.one
  have hn20 : n ≤ 20 := hla.few
  have hsm : ∀ i, i < n → (gc L i).x.length ≤ 60 := fun i hi => by
    have hgd := (hg.ps i (by omega)).1
    rw [hgd.2.2]
    exact ix_len60 hgd.1
  have C3 := hide (fun wx (hb : Below w.heap.size w wx) => putVarint_yes (r.size : Int) wx (by omega) (by omega) (ht.below hb))
  have C4 := hide (fun wx (hb : Below w.heap.size w wx) => copyLog_any a L n cap B wx hn hn1 hn20 (hs.below hb) hsm)
  obtain ⟨E0, hE0⟩ : ∃ E0, E0 = lastEnd L n - (gc L 0).f := ⟨_, rfl⟩
  rw [← hE0] at C2 h60
  have hE6 : (E0 == 60) = false := by simp only [beq_eq_false_iff_ne]; exact h60
  have hr20' : ¬ (20 : Int) < (r.size : Int) := by omega
  obtain ⟨P, hP⟩ : ∃ P, P = strOfNums (vd (zig (r.size : Int))) := ⟨_, rfl⟩
  rw [← hP] at C3
  obtain ⟨R, hR⟩ : ∃ R, R = rec r := ⟨_, rfl⟩
  have hPr : P ++ r = R := by rw [hR, hP]; rfl
  have hRs : R.size = 1 + r.size := by rw [hR]; exact rec_size r hr20
  have hPs : P.size + r.size = R.size := by rw [← hPr, ByteArray.size_append]
  have qa : ∀ w : World, (Op.stringOp .add P r).run Tryd.prog w = .ok (.string R) w := fun w => by rw [← hPr]; exact run_string_add_sum w _ _ (by omega)
  have HS := hide hs
  have HN := hide hn
  have HG := hide hg
  have HT := hide ht
  have HF := hide hf
  have HRR := hide hR
  clear hs hn hg hst ht hp hf hla hsm hE0 hP hR hPr
  go_enter Tryd.func6, Tryd.ntmps6
  go_wp2_with fail
  refine (C1.out _ (((Below.refl _ _).alloc (Nat.le_refl _) _).alloc (by simp) _)).mono ?_
  rintro e v1 ⟨rfl, hb1⟩
  have G1 : Hid (v1.heap[w.heap.size + 1]? = some (.cells #[.slice none 0 0, .int .i64 0] 25 (0, 0))) := (hb1.block (w.heap.size + 1) (by simp)).trans (blk_second w _ _)
  have H1 : Hid (v1.heap[w.heap.size]? = some (.cells #[.slice a n cap, .int .i64 B] 25 (0, 0))) := (hb1.block w.heap.size (by simp only [World.size_alloc]; omega)).trans (blk_first w _ _)
  obtain ⟨k0, k1, _, _⟩ := blkp H1.out
  have B1 := hide ((((Below.refl w.heap.size w).alloc (Nat.le_refl _) (.cells #[.slice a n cap, .int .i64 B] 25 (0, 0))).alloc (by simp) (.cells #[.slice none 0 0, .int .i64 0] 25 (0, 0))).trans (hb1.mono (by simp; omega)))
  clear hb1
  go_wp2_with fail
  refine (C2.out _ B1.out).mono ?_
  rintro e v2 ⟨rfl, hb2⟩
  have B2 := hide (B1.out.trans (hb2.mono B1.out.size))
  have hs1 : w.heap.size + 1 < v1.heap.size := (Array.getElem?_eq_some_iff.1 G1.out).1
  have hs2 := hb2.size
  have G2 : Hid (v2.heap[w.heap.size + 1]? = some (.cells #[.slice none 0 0, .int .i64 0] 25 (0, 0))) := (hb2.block _ hs1).trans G1.out
  have H2 : Hid (v2.heap[w.heap.size]? = some (.cells #[.slice a n cap, .int .i64 B] 25 (0, 0))) := (hb2.block _ (by omega)).trans H1.out
  clear k0 k1 hb2
  go_wp2_with fail
  refine (C3.out _ B2.out).mono ?_
  rintro e w0 ⟨rfl, hb3⟩
  have B3 := hide (B2.out.trans (hb3.mono B2.out.size))
  have hs3 := hb3.size
  have G3 : Hid (w0.heap[w.heap.size + 1]? = some (.cells #[.slice none 0 0, .int .i64 0] 25 (0, 0))) := (hb3.block _ (by omega)).trans G2.out
  have H3 : Hid (w0.heap[w.heap.size]? = some (.cells #[.slice a n cap, .int .i64 B] 25 (0, 0))) := (hb3.block _ (by omega)).trans H2.out
  obtain ⟨k0, k1, _, _⟩ := blkp H3.out
  clear hb3
  go_wp2_with fail
  refine (C4.out _ B3.out).mono ?_
  rintro e w1 ⟨g, M, rfl, hM, ho, hb4⟩
  have B4 := hide (B3.out.trans (hb4.mono B3.out.size))
  have hs4 := hb4.size
  have G4 : Hid (w1.heap[w.heap.size + 1]? = some (.cells #[.slice none 0 0, .int .i64 0] 25 (0, 0))) := (hb4.block _ (by omega)).trans G3.out
  have hgb := own_ltC ho.row g rfl
  have hml := ho.len
  obtain ⟨m, hm'⟩ : ∃ m, m = n - 1 := ⟨_, rfl⟩
  have hnm : (n : Int) - 1 = (m : Int) := by omega
  have hmn : (m : Int) < (n : Int) := by omega
  have hm0 : (0 : Int) ≤ (m : Int) := by omega
  have hmN : m < n := by omega
  obtain ⟨f1, f2, f3⟩ := flatC_get M m (by omega)
  have hp1 : (M.getD m eV).1 = gc L m := by
    have := pcs_get M m (by omega)
    rw [hM] at this
    exact this.symm
  rw [hp1] at f1 f2
  have hfl : (flatC M).length = n * 3 := by rw [flatC_len, hml]
  have d1 := (ho.row.cellAt (m * 3) (by omega)).trans f1
  have d2 := (ho.row.cellAt (m * 3 + 1) (by omega)).trans f2
  have hlp : endP L = gc L m := by show gc L (L.length - 1) = _; rw [HN.out, hm']
  have hgp := (HG.out.ps m (by rw [HN.out]; exact hmN)).1
  have hfit := HF.out
  unfold AppFits at hfit
  rw [hlp] at hfit
  obtain ⟨p, hp⟩ : ∃ p, p = gc L m := ⟨_, rfl⟩
  rw [← hp] at d1 d2 hlp hfit hgp
  obtain ⟨f, s, x⟩ := p
  simp only at d1 d2 hfit
  obtain ⟨Y, hY⟩ : ∃ Y, Y = s ++ R := ⟨_, rfl⟩
  have hYs : Y.size = s.size + R.size := by rw [hY, ByteArray.size_append]
  have q2 : ∀ w : World, (Op.stringOp .add s R).run Tryd.prog w = .ok (.string Y) w := fun w => by rw [hY]; exact run_string_add_sum w _ _ (by have := hgp.1; simp only at this; omega)
  have hY60 : ¬ (Y.size : Int) ≤ 60 := by omega
  have hnn : ((n : Int) == 20) = true := by have := HN.out; simp; omega
  generalize hW : w1.alloc (.cells #[.slice (some ⟨g, 0, none⟩) n n, .int .i64 B] 25 (0, 0)) = W
  have BW : Below w1.heap.size w1 W := by rw [← hW]; exact (Below.refl _ _).alloc (Nat.le_refl _) _
  have GO : Hid (W.heap[w1.heap.size]? = some (.cells #[.slice (some ⟨g, 0, none⟩) n n, .int .i64 B] 25 (0, 0))) := by show _ = _; rw [← hW]; exact blk_new _ _
  obtain ⟨o0, o1, o2, o3⟩ := blkp GO.out
  have G5 : Hid (W.heap[w.heap.size + 1]? = some (.cells #[.slice none 0 0, .int .i64 0] 25 (0, 0))) := (BW.block _ (by omega)).trans G4.out
  have e1 := (BW.cell (p := ⟨g, m * 3, none⟩) (blk_lt d1)).trans d1
  have e2 := (BW.cell (p := ⟨g, m * 3 + 1, none⟩) (blk_lt d2)).trans d2
  have B5 := hide (B4.out.trans (BW.mono B4.out.size))
  have HO5 := hide (ho.below BW)
  have HM := hide hM
  have HLP := hide hlp
  have HYY := hide hY
  have hwW : w1.heap.size < W.heap.size := (Array.getElem?_eq_some_iff.1 GO.out).1
  obtain ⟨z0, z1, z2, z3⟩ := blkp G5.out
  have HW := hide hW
  clear hW BW ho hM hlp hp1 f1 f2 f3 hfl hgp hY hfit hb4 hm' hml hp d1 d2 k0 k1
  go_upto_region 11 with (first | (rw [HW.out]) | fail)
  first | rw [HW.out] | skip
  go_wp2
  refine bodyPost_ret (v := .tuple #[.agg #[.slice none 0 0, .int .i64 0], .bool false]) (by simp [results, Tryd.f6, go_sem, z0, z1]) rfl (retL_none ((B5.out.setCell (p := ⟨_, _, none⟩) (Nat.le_succ _) _).setCell (p := ⟨_, _, none⟩) (Nat.le_succ _) _))
end Go.Proofs.YtbcljhafdpnjbabDoor.L6

namespace Go.Proofs.YtbcljhafdpnjbabDoor.L6
open Go.RowKit L1
set_option linter.unusedVariables false

open Classical in
theorem implAppend_any (a : Option Addr) (L : List Pc) (n cap : Nat) (B : Int) (r : ByteArray) (w : World) (hn : L.length = n) (hm : n ≤ 9223372036854775807) (hs : SlC w a L) (hst : TxC L) (ht : Tab w) (L' : List Pc) (B' : Int) (ok : Bool) (hap : AppIs L B r L' B' ok) :
    Calls Tryd.prog 6 #[.agg #[.slice a n cap, .int .i64 B], .string r] w (RetL w L' B' ok) := by
  by_cases hp : AppPre L B r
  · by_cases hf : AppFits L r
    · obtain ⟨rfl, rfl, rfl⟩ := hap.put hp hf
      exact implAppend_yes a L n cap B' r w hn hm hs hst ht hp hf
    · by_cases h20 : L.length = 20
      · obtain ⟨rfl, rfl, rfl⟩ := hap.full hp hf h20
        exact implAppend_full a L n cap B r w hn hm hs hst ht hp hf h20
      · obtain ⟨rfl, rfl, rfl⟩ := hap.more hp hf h20
        exact implAppend_more a L n cap B' r w hn hm hs hst ht hp hf h20
  · obtain ⟨rfl, rfl, rfl⟩ := hap.no hp
    exact implAppend_no a L n cap B r w hn hm hs hst ht hp
end Go.Proofs.YtbcljhafdpnjbabDoor.L6

namespace Go.Proofs.YtbcljhafdpnjbabDoor.L6
open Go.RowKit L1
set_option linter.unusedVariables false

open Classical in
set_option maxRecDepth 100000 in
set_option maxHeartbeats 1000000 in
theorem implEndOf_any (a : Option Addr) (L : List Pc) (n cap : Nat) (B : Int) (w : World) (hn : L.length = n) (hm : n ≤ 9223372036854775807) (hs : SlC w a L) (hst : TxC L) (ht : Tab w) (r : Int) (ok : Bool) (hr : endRes L B = if ok then some r else none) (hr0 : ok = false → r = 0) :
    Calls Tryd.prog 8 #[.agg #[.slice a n cap, .int .i64 B]] w fun e w' => e = .returned (.tuple #[.int .i64 r, .bool ok]) ∧ Below w.heap.size w w' := by
  obtain ⟨bk, hbk⟩ : ∃ bk : Bool, bk = true ↔ GoodG L B := ⟨decide (GoodG L B), by simp⟩
  have C1 := hide (fun wx (hb : Below w.heap.size w wx) => goodLog_any a L n cap B wx hn hm (hs.below hb) hst (ht.below hb) bk hbk)
  cases bk with
  | false =>
    have hg : ¬ GoodG L B := fun h => absurd (hbk.2 h) (by simp)
    have hok : ok = false := by
      unfold endRes at hr
      rw [if_neg hg] at hr
      cases ok with
      | false => rfl
      | true => simp at hr
    obtain rfl := hr0 hok
    subst hok
    clear hr hs hn hst ht hbk hg hr0
    go_enter Tryd.func8, Tryd.ntmps8
    go_wp2_with fail
    refine (C1.out _ ((Below.refl _ _).alloc (Nat.le_refl _) _)).mono ?_
    rintro e w1 ⟨rfl, hb1⟩
    have B1 := hide (((Below.refl w.heap.size w).alloc (Nat.le_refl _) (.cells #[.slice a n cap, .int .i64 B] 25 (0, 0))).trans (hb1.mono (by simp)))
    clear hb1
    go_wp2
    go_ret2
    exact ⟨rfl, B1.out⟩
  | true =>
    have hg := hbk.1 rfl
    have hE : ok = true ∧ r = lastEnd L n := by
      unfold endRes at hr
      rw [if_pos hg, show endg L = lastEnd L n by rw [← hn]; exact end_last hg.one hg.ps] at hr
      cases ok with
      | false => simp at hr
      | true => simp at hr; exact ⟨rfl, hr.symm⟩
    obtain ⟨rfl, rfl⟩ := hE
    have hla := hg.logAt hn hs ht
    have C2 := hide (fun wx (hb : Below w.heap.size w wx) => endOf_any a L n cap B wx (hla.below hb))
    obtain ⟨E, hE⟩ : ∃ E, E = lastEnd L n := ⟨_, rfl⟩
    rw [← hE] at C2 ⊢
    clear hr hs hn hst ht hbk hg hr0 hE hla
    go_enter Tryd.func8, Tryd.ntmps8
    go_wp2_with fail
    refine (C1.out _ ((Below.refl _ _).alloc (Nat.le_refl _) _)).mono ?_
    rintro e w1 ⟨rfl, hb1⟩
    have B1 := hide (((Below.refl w.heap.size w).alloc (Nat.le_refl _) (.cells #[.slice a n cap, .int .i64 B] 25 (0, 0))).trans (hb1.mono (by simp)))
    obtain ⟨k0, k1⟩ := blk2 ((hb1.block w.heap.size (by simp)).trans (blk_new _ _))
    clear hb1
    go_wp2_with fail
    refine (C2.out _ B1.out).mono ?_
    rintro e w2 ⟨rfl, hb2⟩
    have B2 := hide (B1.out.trans (hb2.mono B1.out.size))
    clear hb2
    go_wp2
    go_ret2
    exact ⟨rfl, B2.out⟩
end Go.Proofs.YtbcljhafdpnjbabDoor.L6

namespace Go.Proofs.YtbcljhafdpnjbabDoor.L6
open Go.RowKit L1
set_option linter.unusedVariables false

open Classical in
set_option maxRecDepth 100000 in
set_option maxHeartbeats 4000000 in
theorem implReadAt_any (a : Option Addr) (L : List Pc) (n cap : Nat) (B o : Int) (w : World) (hn : L.length = n) (hm : n ≤ 9223372036854775807) (hs : SlC w a L) (hst : TxC L) (ht : Tab w) (r : ByteArray) (ok : Bool) (hr : readRes L B o = if ok then some r else none) (hr0 : ok = false → r = ByteArray.empty) :
    Calls Tryd.prog 15 #[.agg #[.slice a n cap, .int .i64 B], .int .i64 o] w fun e w' => e = .returned (.tuple #[.string r, .bool ok]) ∧ Below w.heap.size w w' := by
  obtain ⟨bk, hbk⟩ : ∃ bk : Bool, bk = true ↔ GoodG L B := ⟨decide (GoodG L B), by simp⟩
  have C1 := hide (fun wx (hb : Below w.heap.size w wx) => goodLog_any a L n cap B wx hn hm (hs.below hb) hst (ht.below hb) bk hbk)
  have hno : ¬ (GoodG L B ∧ B ≤ o ∧ o < endg L) → ok = false ∧ r = ByteArray.empty := fun h => by
    unfold readRes at hr
    rw [if_neg h] at hr
    cases ok with
    | false => exact ⟨rfl, hr0 rfl⟩
    | true => simp at hr
  cases bk with
  | false =>
    obtain ⟨rfl, rfl⟩ := hno (fun h => absurd (hbk.2 h.1) (by simp))
    clear hr hs hn hst ht hbk hr0 hno
    go_enter Tryd.func15, Tryd.ntmps15
    go_wp2_with fail
    refine (C1.out _ ((Below.refl _ _).alloc (Nat.le_refl _) _)).mono ?_
    rintro e w1 ⟨rfl, hb1⟩
    have B1 := hide (((Below.refl w.heap.size w).alloc (Nat.le_refl _) (.cells #[.slice a n cap, .int .i64 B] 25 (0, 0))).trans (hb1.mono (by simp)))
    obtain ⟨k0, k1⟩ := blk2 ((hb1.block w.heap.size (by simp)).trans (blk_new _ _))
    clear hb1
    go_wp2
    go_ret2
    exact ⟨rfl, B1.out⟩
  | true =>
    have hg := hbk.1 rfl
    have hla := hg.logAt hn hs ht
    have hle := hg.last hn
    have hbd := hg.end0
    obtain ⟨bi, hbi⟩ : ∃ bi : Bool, bi = true ↔ B ≤ o ∧ o ≤ lastEnd L n := ⟨decide (B ≤ o ∧ o ≤ lastEnd L n), by simp⟩
    have C2 := hide (fun wx (hb : Below w.heap.size w wx) => isWithin_any a L n cap B o wx (hla.below hb) bi hbi)
    have C3 := hide (fun wx (hb : Below w.heap.size w wx) => endOf_any a L n cap B wx (hla.below hb))
    cases bi with
    | false =>
      obtain ⟨rfl, rfl⟩ := hno (fun h => absurd (hbi.2 ⟨h.2.1, by have := h.2.2; omega⟩) (by simp))
      clear hr hs hn hst ht hbk hr0 hno hbi hg hla hle hbd C3
      go_enter Tryd.func15, Tryd.ntmps15
      go_wp2_with fail
      refine (C1.out _ ((Below.refl _ _).alloc (Nat.le_refl _) _)).mono ?_
      rintro e w1 ⟨rfl, hb1⟩
      have B1 := hide (((Below.refl w.heap.size w).alloc (Nat.le_refl _) (.cells #[.slice a n cap, .int .i64 B] 25 (0, 0))).trans (hb1.mono (by simp)))
      obtain ⟨k0, k1⟩ := blk2 ((hb1.block w.heap.size (by simp)).trans (blk_new _ _))
      clear hb1
      go_wp2_with fail
      refine (C2.out _ B1.out).mono ?_
      rintro e w2 ⟨rfl, hb2⟩
      have B2 := hide (B1.out.trans (hb2.mono B1.out.size))
      have k0' := (hb2.cell (p := ⟨w.heap.size, 0, none⟩) (blk_lt k0)).trans k0
      have k1' := (hb2.cell (p := ⟨w.heap.size, 1, none⟩) (blk_lt k1)).trans k1
      clear hb2 k0 k1
      go_wp2
      go_ret2
      exact ⟨rfl, B2.out⟩
    | true =>
      have hwi := hbi.1 rfl
      by_cases hend : o = lastEnd L n
      · obtain ⟨rfl, rfl⟩ := hno (fun h => by have := h.2.2; omega)
        rw [← hend] at C3
        clear hr hs hn hst ht hbk hr0 hno hbi hg hla hle hbd hwi hend
        go_enter Tryd.func15, Tryd.ntmps15
        go_wp2_with fail
        refine (C1.out _ ((Below.refl _ _).alloc (Nat.le_refl _) _)).mono ?_
        rintro e w1 ⟨rfl, hb1⟩
        have B1 := hide (((Below.refl w.heap.size w).alloc (Nat.le_refl _) (.cells #[.slice a n cap, .int .i64 B] 25 (0, 0))).trans (hb1.mono (by simp)))
        obtain ⟨k0, k1⟩ := blk2 ((hb1.block w.heap.size (by simp)).trans (blk_new _ _))
        clear hb1
        go_wp2_with fail
        refine (C2.out _ B1.out).mono ?_
        rintro e w2 ⟨rfl, hb2⟩
        have B2 := hide (B1.out.trans (hb2.mono B1.out.size))
        have k0' := (hb2.cell (p := ⟨w.heap.size, 0, none⟩) (blk_lt k0)).trans k0
        have k1' := (hb2.cell (p := ⟨w.heap.size, 1, none⟩) (blk_lt k1)).trans k1
        clear hb2 k0 k1
        go_wp2_with fail
        refine (C3.out _ B2.out).mono ?_
        rintro e w3 ⟨rfl, hb3⟩
        have B3 := hide (B2.out.trans (hb3.mono B2.out.size))
        have l0 := (hb3.cell (p := ⟨w.heap.size, 0, none⟩) (blk_lt k0')).trans k0'
        have l1 := (hb3.cell (p := ⟨w.heap.size, 1, none⟩) (blk_lt k1')).trans k1'
        clear hb3 k0' k1'
        go_wp2
        go_ret2
        exact ⟨rfl, B3.out⟩
      · have hyes : GoodG L B ∧ B ≤ o ∧ o < endg L := ⟨hg, hwi.1, by omega⟩
        have hrr : ok = true ∧ r = rdAt L o := by
          unfold readRes at hr
          rw [if_pos hyes] at hr
          cases ok with
          | false => simp at hr
          | true => simp at hr; exact ⟨rfl, hr.symm⟩
        obtain ⟨rfl, rfl⟩ := hrr
        obtain ⟨p1, p2, p3, p4⟩ := hg.spot hyes.2.1 hyes.2.2
        have hgp := (hg.ps _ p1).1
        have hnx : atg L (pcAt L o (L.length - 1) + 1) = atg L (pcAt L o (L.length - 1)) + (cnt (gc L (pcAt L o (L.length - 1))).s : Int) := rfl
        unfold rdAt
        obtain ⟨i, hi⟩ : ∃ i, i = pcAt L o (L.length - 1) := ⟨_, rfl⟩
        rw [← hi] at p1 p2 p3 p4 hgp hnx ⊢
        have hin : i < n := by omega
        have hn1 : 1 ≤ n := by omega
        have hn20 : n ≤ 20 := by have := hg.many; omega
        obtain ⟨b, off, rfl, ai, ci, hat⟩ := hs i (by omega)
        have q1 := hat.f
        have q2 := hat.s
        have q3 := hat.x
        have q4 := hat.l
        rw [show L.getD i eC = gc L i from rfl] at q1 q2 q3 q4
        obtain ⟨p, hp⟩ : ∃ p, p = gc L i := ⟨_, rfl⟩
        rw [← hp] at p2 hgp hnx q1 q2 q3 q4 ⊢
        obtain ⟨f, s, x⟩ := p
        simp only at p2 hnx q1 q2 q3 q4 ⊢
        obtain ⟨t, htt⟩ : ∃ t, t = (o - f).toNat := ⟨_, rfl⟩
        rw [← htt]
        have hof : o - f = (t : Int) := by omega
        have htc : t < cnt s := by omega
        have hwr : IntKind.i64.wrap (o - f) = (t : Int) := by rw [hof]; exact wrap6 (by omega) (by have := good_cnt hgp; simp only at this; omega)
        obtain ⟨m, hmm⟩ : ∃ m, m = x.length := ⟨_, rfl⟩
        rw [← hmm] at q3
        have C4 := hide (fun wx (hb : Below w.heap.size w wx) => pieceAt_any (some ⟨b, off, none⟩) L n cap B o wx hn hn1 hn20 (hs.below hb) i (by rw [← hn]; exact hi.symm))
        have C5 := hide (fun wx (hb : Below w.heap.size w wx) => placeOf_any f s ai x m ci t wx hgp hmm.symm (q4.below hb) (by omega) (ht.below hb))
        obtain ⟨c, z, hrc, _⟩ := cnt_rc s t htc
        have hs60 : s.size ≤ 60 := hgp.1
        have C6 := hide (fun wx (hb : Below w.heap.size w wx) => (recordAt_some s (pl s 0 t) c z wx hrc (by omega) (ht.below hb)).mono (R' := fun e w' => e = .returned (.tuple #[.string (rtx s (pl s 0 t)), .int .i64 ((nx s (pl s 0 t) : Nat) : Int), .bool true]) ∧ Below wx.heap.size wx w') (by
          rintro e w' ⟨rfl, rfl⟩
          exact ⟨rfl, Below.refl _ _⟩))
        obtain ⟨y, hy⟩ : ∃ y, y = rtx s (pl s 0 t) := ⟨_, rfl⟩
        rw [← hy] at C6 ⊢
        obtain ⟨x1, hx1⟩ : ∃ x1, x1 = pl s 0 t := ⟨_, rfl⟩
        rw [← hx1] at C5 C6
        obtain ⟨x2, hx2⟩ : ∃ x2, x2 = nx s x1 := ⟨_, rfl⟩
        rw [← hx2] at C6
        obtain ⟨E, hE⟩ : ∃ E, E = lastEnd L n := ⟨_, rfl⟩
        rw [← hE] at C3 hend
        have hinI : (i : Int) < (n : Int) := by omega
        have hi0 : (0 : Int) ≤ (i : Int) := by omega
        have hoE : ((o == E) = false) := by simp; exact hend
        clear hr hst hbk hr0 hno hbi hg hla hle hbd hwi hyes p1 p2 p3 p4 hgp hnx hi hat q4 hp htt htc hmm hrc hy hx1 hx2 hE hs hn ht hof
        go_enter Tryd.func15, Tryd.ntmps15
        go_wp2_with fail
        refine (C1.out _ ((Below.refl _ _).alloc (Nat.le_refl _) _)).mono ?_
        rintro e w1 ⟨rfl, hb1⟩
        have B1 := hide (((Below.refl w.heap.size w).alloc (Nat.le_refl _) (.cells #[.slice (some ⟨b, off, none⟩) n cap, .int .i64 B] 25 (0, 0))).trans (hb1.mono (by simp)))
        obtain ⟨k0, k1⟩ := blk2 ((hb1.block w.heap.size (by simp)).trans (blk_new _ _))
        clear hb1
        go_wp2_with fail
        refine (C2.out _ B1.out).mono ?_
        rintro e w2 ⟨rfl, hb2⟩
        have B2 := hide (B1.out.trans (hb2.mono B1.out.size))
        have k0' := (hb2.cell (p := ⟨w.heap.size, 0, none⟩) (blk_lt k0)).trans k0
        have k1' := (hb2.cell (p := ⟨w.heap.size, 1, none⟩) (blk_lt k1)).trans k1
        clear hb2 k0 k1
        go_wp2_with fail
        refine (C3.out _ B2.out).mono ?_
        rintro e w3 ⟨rfl, hb3⟩
        have B3 := hide (B2.out.trans (hb3.mono B2.out.size))
        have l0 := (hb3.cell (p := ⟨w.heap.size, 0, none⟩) (blk_lt k0')).trans k0'
        have l1 := (hb3.cell (p := ⟨w.heap.size, 1, none⟩) (blk_lt k1')).trans k1'
        clear hb3 k0' k1'
        have C7 := hide (fun wx (hb : Below w3.heap.size w3 wx) => (C4.out wx (B3.out.trans (hb.mono B3.out.size))).mono (R' := fun e w4 => e = .returned (.int .i64 i) ∧ Below wx.heap.size wx w4 ∧ Below w.heap.size w w4 ∧ (w4.cell? ⟨w.heap.size, 0, none⟩ = some (.slice (some ⟨b, off, none⟩) n cap) ∧ w4.cell? ⟨w.heap.size, 1, none⟩ = some (.int .i64 B) ∧ w4.cell? ⟨b, off + i * 3, none⟩ = some (.int .i64 f) ∧ w4.cell? ⟨b, off + i * 3 + 1, none⟩ = some (.string s) ∧ w4.cell? ⟨b, off + i * 3 + 2, none⟩ = some (.slice ai m ci)) ∧ ∀ ob, (w4.alloc ob).cell? ⟨w.heap.size, 0, none⟩ = some (.slice (some ⟨b, off, none⟩) n cap) ∧ (w4.alloc ob).cell? ⟨b, off + i * 3, none⟩ = some (.int .i64 f) ∧ (w4.alloc ob).cell? ⟨b, off + i * 3 + 1, none⟩ = some (.string s) ∧ (w4.alloc ob).cell? ⟨b, off + i * 3 + 2, none⟩ = some (.slice ai m ci)) (by
          rintro e w4 ⟨rfl, hb4⟩
          have h3 := hb.trans (hb4.mono hb.size)
          have h4 := B3.out.trans (h3.mono B3.out.size)
          have r0 := (h3.cell (p := ⟨w.heap.size, 0, none⟩) (blk_lt l0)).trans l0
          have r1 := (h4.cell (p := ⟨b, off + i * 3, none⟩) (blk_lt q1)).trans q1
          have r2 := (h4.cell (p := ⟨b, off + i * 3 + 1, none⟩) (blk_lt q2)).trans q2
          have r3 := (h4.cell (p := ⟨b, off + i * 3 + 2, none⟩) (blk_lt q3)).trans q3
          exact ⟨rfl, hb4, h4, ⟨r0, (h3.cell (p := ⟨w.heap.size, 1, none⟩) (blk_lt l1)).trans l1, r1, r2, r3⟩, fun ob => ⟨Go.Lib.cell?_alloc_some ob r0, Go.Lib.cell?_alloc_some ob r1, Go.Lib.cell?_alloc_some ob r2, Go.Lib.cell?_alloc_some ob r3⟩⟩))
        obtain ⟨Z, hZ⟩ : ∃ Z : Obj, Z = .cells #[.int .i64 0, .string ByteArray.empty, .slice none 0 0] 50 (0, 0) := ⟨_, rfl⟩
        have C8 := hide ((C7.out ((w3.alloc (.cells #[.int .i64 0, .string ByteArray.empty, .slice none 0 0] 50 (0, 0))).drew) (((Below.refl _ _).alloc (Nat.le_refl _) _).drew)).mono (R' := fun e w4 => e = .returned (.int .i64 i) ∧ Below w.heap.size w w4 ∧ (w4.cell? ⟨w.heap.size, 0, none⟩ = some (.slice (some ⟨b, off, none⟩) n cap) ∧ w4.cell? ⟨w.heap.size, 1, none⟩ = some (.int .i64 B) ∧ w4.cell? ⟨b, off + i * 3, none⟩ = some (.int .i64 f) ∧ w4.cell? ⟨b, off + i * 3 + 1, none⟩ = some (.string s) ∧ w4.cell? ⟨b, off + i * 3 + 2, none⟩ = some (.slice ai m ci)) ∧ (w4.cell? ⟨w3.heap.size, 0, none⟩ = some (.int .i64 0) ∧ w4.cell? ⟨w3.heap.size, 1, none⟩ = some (.string ByteArray.empty) ∧ w4.cell? ⟨w3.heap.size, 2, none⟩ = some (.slice none 0 0) ∧ w4.frozen? ⟨w3.heap.size, 0, none⟩ = false ∧ w4.frozen? ⟨w3.heap.size, 1, none⟩ = false ∧ w4.frozen? ⟨w3.heap.size, 2, none⟩ = false)) (by
          rintro e w4 ⟨rfl, hb4, h4, hm, _⟩
          have G : w4.heap[w3.heap.size]? = some (.cells #[.int .i64 0, .string ByteArray.empty, .slice none 0 0] 50 (0, 0)) := (hb4.block w3.heap.size (by show w3.heap.size < (w3.heap.push _).size; simp)).trans (blk_new w3 _)
          exact ⟨rfl, h4, hm, blk3 G⟩))
        have hnew : w.heap.size ≤ w3.heap.size := B3.out.size
        have al0 : ∀ ob, (w3.alloc ob).cell? ⟨w.heap.size, 0, none⟩ = some (.slice (some ⟨b, off, none⟩) n cap) := fun ob => Go.Lib.cell?_alloc_some (W := w3) ob l0
        have al1 : ∀ ob, (w3.alloc ob).cell? ⟨w.heap.size, 1, none⟩ = some (.int .i64 B) := fun ob => Go.Lib.cell?_alloc_some (W := w3) ob l1
        clear C4 hZ Z
        go_upto_region 3 with fail
        go_cut [6] (fun t wx => ∃ g, t = .pointer (some ⟨g, 0, none⟩) ∧ wx.cell? ⟨g, 0, none⟩ = some (.int .i64 f) ∧ wx.cell? ⟨g, 1, none⟩ = some (.string s) ∧ wx.cell? ⟨g, 2, none⟩ = some (.slice ai m ci) ∧ Below w.heap.size w wx)
        case first =>
          go_region_with (first | (go_at_call 48; refine C8.out.mono ?_; rintro e w4 ⟨rfl, hb4, ⟨m0, m1, m2, m3, m4⟩, z0, z1, z2, z3, z4, z5⟩) | (go_at_call 48; refine (C7.out _ ?_).mono ?_; (first | exact Below.refl _ _ | exact (Below.refl _ _).drew); rintro e w4 ⟨rfl, _, hb4, ⟨m0, m1, m2, m3, m4⟩, ma⟩))
          all_goals (
            go_wp2_with fail
            go_meet
            case rel => first
              | exact ⟨_, rfl, (blk3 (blk_new w4 _)).1, (blk3 (blk_new w4 _)).2.1, (blk3 (blk_new w4 _)).2.2.1, hb4.alloc hb4.size _⟩
              | exact ⟨_, rfl, by simp [go_sem, z0], by simp [go_sem, z1], by simp [go_sem, z2], ((hb4.setCell (p := ⟨_, _, none⟩) hnew _).setCell (p := ⟨_, _, none⟩) hnew _).setCell (p := ⟨_, _, none⟩) hnew _⟩)
        case rest =>
          obtain ⟨g, rfl, d0, d1, d2, hbW⟩ := hcut
          have BW := hide hbW
          clear hbW C7 C8 al0 al1 l0 l1
          go_wp2
          refine wp_region_held_drew (S := fun wx => (wx.cell? ⟨g, 0, none⟩ = some (.int .i64 f) ∧ wx.cell? ⟨g, 1, none⟩ = some (.string s) ∧ wx.cell? ⟨g, 2, none⟩ = some (.slice ai m ci)) ∧ Below wc.heap.size wc wx) (by kernel_rfl) ⟨⟨d0, d1, d2⟩, (Below.refl _ _).drew⟩ (fun hHeld => ?_)
          refine wpAnyH_take (i := 0) (v := ?v1) rfl (by kernel_rfl) (by kernel_rfl) (by kernel_rfl) (fun _ _ _ h => h) (Or.inl ⟨by rfl, ?y1⟩) (by assumption) ?r1
          case y1 => (intro w hSw; (try dsimp only at hSw); go_simp; try (with_reducible rfl))
          simp only [List.getElem_toArray, List.getElem_cons_zero, Act.put, List.setIfInBounds_toArray, List.set_cons_zero, List.set_cons_succ]
          refine wpAnyH_take (i := 1) (v := ?v2) rfl (by kernel_rfl) (by kernel_rfl) (by kernel_rfl) (fun _ _ _ h => h) (Or.inl ⟨by rfl, ?y2⟩) (by assumption) ?r2
          case y2 => (intro w hSw; (try dsimp only at hSw); go_simp; try (with_reducible rfl))
          simp only [List.getElem_toArray, List.getElem_cons_succ, List.getElem_cons_zero, Act.put, List.setIfInBounds_toArray, List.set_cons_zero, List.set_cons_succ]
          refine wpAnyH_take (i := 2) (v := ?v3) rfl (by kernel_rfl) (by kernel_rfl) (by kernel_rfl) (fun _ _ _ h => h) (Or.inl ⟨by rfl, ?y3⟩) (by assumption) ?r3
          case y3 => (intro w hSw; (try dsimp only at hSw); go_simp; try (with_reducible rfl))
          simp only [List.getElem_toArray, List.getElem_cons_succ, List.getElem_cons_zero, Act.put, List.setIfInBounds_toArray, List.set_cons_zero, List.set_cons_succ]
          refine wpAnyH_take (i := 3) (v := ?v4) rfl (by kernel_rfl) (by kernel_rfl) (by kernel_rfl) (fun _ _ _ h => h) (Or.inl ⟨by rfl, ?y4⟩) (by assumption) ?r4
          case y4 => (intro w hSw; (try dsimp only at hSw); go_simp; try (with_reducible rfl))
          simp only [List.getElem_toArray, List.getElem_cons_succ, List.getElem_cons_zero, Act.put, List.setIfInBounds_toArray, List.set_cons_zero, List.set_cons_succ]
          refine wpAnyH_take (i := 4) (v := ?v5) rfl (by kernel_rfl) (by kernel_rfl) (by kernel_rfl) (fun _ _ _ h => h) (Or.inl ⟨by rfl, ?y5⟩) (by assumption) ?r5
          case y5 => (intro w hSw; (try dsimp only at hSw); go_simp; try (with_reducible rfl))
          simp only [List.getElem_toArray, List.getElem_cons_succ, List.getElem_cons_zero, Act.put, List.setIfInBounds_toArray, List.set_cons_zero, List.set_cons_succ]
          refine wpAnyH_take (i := 5) (v := ?v6) rfl (by kernel_rfl) (by kernel_rfl) (by kernel_rfl) (fun _ _ _ h => h) (Or.inl ⟨by rfl, ?y6⟩) (by assumption) ?r6
          case y6 => (intro w hSw; (try dsimp only at hSw); go_simp; try (with_reducible rfl))
          simp only [List.getElem_toArray, List.getElem_cons_succ, List.getElem_cons_zero, Act.put, List.setIfInBounds_toArray, List.set_cons_zero, List.set_cons_succ]
          refine wpAnyH_take (i := 6) (v := ?v7) rfl (by kernel_rfl) (by kernel_rfl) (by kernel_rfl) (fun _ _ _ h => h) (Or.inl ⟨by rfl, ?y7⟩) (by assumption) ?r7
          case y7 => (intro w hSw; (try dsimp only at hSw); go_simp; try (with_reducible rfl))
          simp only [List.getElem_toArray, List.getElem_cons_succ, List.getElem_cons_zero, Act.put, List.setIfInBounds_toArray, List.set_cons_zero, List.set_cons_succ]
          refine wpAnyH_ready (rs := [7]) (by kernel_rfl) (by simp) ?_
          refine AllReadyH.cons rfl (fun K hK => ?_) AllReadyH.nil
          simp only [List.getElem_toArray, List.getElem_cons_succ, List.getElem_cons_zero]
          go_simp
          go_at_call 49
          refine (C5.out _ (BW.out.trans (hHeld.2.mono BW.out.size))).mono ?_
          rintro e w5 ⟨rfl, hb5⟩
          dsimp only
          refine hK.out _ _ ?_ (fun hHeld => ?_)
          · exact keep3 hHeld hb5 (Nat.le_refl _)
          clear hK K
          try simp only [Act.put, List.setIfInBounds_toArray, List.set_cons_zero, List.set_cons_succ]
          refine wpAnyH_ready (rs := [8]) (by kernel_rfl) (by simp) ?_
          refine AllReadyH.cons rfl (fun K hK => ?_) AllReadyH.nil
          simp only [List.getElem_toArray, List.getElem_cons_succ, List.getElem_cons_zero]
          go_simp
          go_at_call 43
          refine (C6.out _ (BW.out.trans (hHeld.2.mono BW.out.size))).mono ?_
          rintro e w6 ⟨rfl, hb6⟩
          dsimp only
          refine hK.out _ _ ?_ (fun hHeld => ?_)
          · exact keep3 (by assumption) hb6 (Nat.le_refl _)
          clear hK K
          try simp only [Act.put, List.setIfInBounds_toArray, List.set_cons_zero, List.set_cons_succ]
          refine wpAnyH_take (i := 9) (v := ?v8) rfl (by kernel_rfl) (by kernel_rfl) (by kernel_rfl) (fun _ _ _ h => h) (Or.inl ⟨by rfl, ?y8⟩) (by assumption) ?r8
          case y8 => (intro w hSw; (try dsimp only at hSw); go_simp; try (with_reducible rfl))
          simp only [List.getElem_toArray, List.getElem_cons_succ, List.getElem_cons_zero, Act.put, List.setIfInBounds_toArray, List.set_cons_zero, List.set_cons_succ]
          refine wpAnyH_take (i := 10) (v := ?v9) rfl (by kernel_rfl) (by kernel_rfl) (by kernel_rfl) (fun _ _ _ h => h) (Or.inl ⟨by rfl, ?y9⟩) (by assumption) ?r9
          case y9 => (intro w hSw; (try dsimp only at hSw); go_simp; try (with_reducible rfl))
          simp only [List.getElem_toArray, List.getElem_cons_succ, List.getElem_cons_zero, Act.put, List.setIfInBounds_toArray, List.set_cons_zero, List.set_cons_succ]
          refine wpAnyH_take (i := 11) (v := ?v10) rfl (by kernel_rfl) (by kernel_rfl) (by kernel_rfl) (fun _ _ _ h => h) (Or.inl ⟨by rfl, ?y10⟩) (by assumption) ?r10
          case y10 => (intro w hSw; (try dsimp only at hSw); go_simp; try (with_reducible rfl))
          simp only [List.getElem_toArray, List.getElem_cons_succ, List.getElem_cons_zero, Act.put, List.setIfInBounds_toArray, List.set_cons_zero, List.set_cons_succ]
          refine wpAnyH_take (i := 12) (v := ?v11) rfl (by kernel_rfl) (by kernel_rfl) (by kernel_rfl) (fun _ _ _ h => h) (Or.inl ⟨by rfl, ?y11⟩) (by assumption) ?r11
          case y11 => (intro w hSw; (try dsimp only at hSw); go_simp; try (with_reducible rfl))
          simp only [List.getElem_toArray, List.getElem_cons_succ, List.getElem_cons_zero, Act.put, List.setIfInBounds_toArray, List.set_cons_zero, List.set_cons_succ]
          refine wpAnyH_take (i := 13) (v := ?v12) rfl (by kernel_rfl) (by kernel_rfl) (by kernel_rfl) (fun _ _ _ h => h) (Or.inl ⟨by rfl, ?y12⟩) (by assumption) ?r12
          case y12 => (intro w hSw; (try dsimp only at hSw); go_simp; try (with_reducible rfl))
          simp only [List.getElem_toArray, List.getElem_cons_succ, List.getElem_cons_zero, Act.put, List.setIfInBounds_toArray, List.set_cons_zero, List.set_cons_succ]
          refine wpAnyH_take (i := 14) (v := ?v13) rfl (by kernel_rfl) (by kernel_rfl) (by kernel_rfl) (fun _ _ _ h => h) (Or.inl ⟨by rfl, ?y13⟩) (by assumption) ?r13
          case y13 => (intro w hSw; (try dsimp only at hSw); go_simp; try (with_reducible rfl))
          simp only [List.getElem_toArray, List.getElem_cons_succ, List.getElem_cons_zero, Act.put, List.setIfInBounds_toArray, List.set_cons_zero, List.set_cons_succ]
          refine wpAnyH_take (i := 15) (v := ?v14) rfl (by kernel_rfl) (by kernel_rfl) (by kernel_rfl) (fun _ _ _ h => h) (Or.inl ⟨by rfl, ?y14⟩) (by assumption) ?r14
          case y14 => (intro w hSw; (try dsimp only at hSw); go_simp; try (with_reducible rfl))
          simp only [List.getElem_toArray, List.getElem_cons_succ, List.getElem_cons_zero, Act.put, List.setIfInBounds_toArray, List.set_cons_zero, List.set_cons_succ]
          refine wpAnyH_done (by kernel_rfl) ?_ _
          have B9 := hide (BW.out.trans (hHeld.2.mono BW.out.size))
          clear hHeld
          go_wp2
          go_ret2
          exact ⟨rfl, B9.out⟩
end Go.Proofs.YtbcljhafdpnjbabDoor.L6
