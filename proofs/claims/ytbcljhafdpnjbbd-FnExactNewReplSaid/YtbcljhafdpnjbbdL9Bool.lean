/-
  Lists of bools in memory, and the laws' own helpers over them: laws.toBoolS, laws.eqBoolS, laws.szBoolS; laws.szIntS.
-/
import Derived.Test.YtbcljhafdpnjbbdL1Sl
import Derived.Deep.QuietTactic
import Derived.BigQuiet
namespace Go.Proofs.Ytbcljhafdpnjbbd.L9
open Go.RowKit L1
set_option linter.unusedVariables false

theorem info_bool : (Try.prog.info? 4).map (fun i => (i.zero, i.size, i.bytes)) = some (some (.bool false), 1, 1) := by kernel_rfl
def SlB (w : World) (a : Option Addr) (xs : List Bool) : Prop := ∀ i, i < xs.length → ∃ b off, a = some ⟨b, off, none⟩ ∧ w.cell? ⟨b, off + i, none⟩ = some (.bool (xs.getD i false))

theorem SlB.below {w w' : World} {a : Option Addr} {xs : List Bool} (h : SlB w a xs) (hb : Below w.heap.size w w') : SlB w' a xs := fun i hi => by
  obtain ⟨b, off, ha, hc⟩ := h i hi
  refine ⟨b, off, ha, ?_⟩
  rw [hb.cell (p := ⟨b, off + i, none⟩) (blk_lt hc)]
  exact hc
theorem sl_of_ownB {w : World} {base g n cap : Nat} {xs : List Bool} (h : w.ownsRow base 4 1 (.slice (some ⟨g, 0, none⟩) n cap) n (xs.map Value.bool)) : SlB w (some ⟨g, 0, none⟩) xs := fun i hi => by
  have := h.cells (g := g) rfl i (.bool (xs.getD i false)) (by
    rw [List.getElem?_map, List.getElem?_eq_getElem hi]
    simp [List.getD, List.getElem?_eq_getElem hi])
  rw [addr_add] at this
  exact ⟨g, 0, rfl, by simpa using this⟩
theorem made_bools (n : Nat) : (madeCells (Value.bool false).cells (n * 1)).toList = (List.replicate n false).map Value.bool := by
  rw [Nat.mul_one]
  show (madeCells #[Value.bool false] n).toList = _
  rw [toList_madeCells_one]
  simp

theorem copy_roundB {w wr : World} {xs ys : List Bool} {m k : Nat} (hlt : k < m) (hm : xs.length = m) (hl : ys.length = m) (HX : ∀ j, j < k → ys.getD j false = xs.getD j false)
    (hown : wr.ownsRow w.heap.size 4 1 (.slice (some ⟨w.heap.size, 0, none⟩) m m) m (ys.map Value.bool)) (hb : Below w.heap.size w wr) :
    ∃ (k' : Nat) (ys' : List Bool), k' ≤ m ∧ Value.int .i64 ((k : Int) + 1) = .int .i64 k' ∧ ys'.length = m ∧ Hid (∀ j, j < k' → ys'.getD j false = xs.getD j false) ∧
      (wr.setCell ⟨w.heap.size, k, none⟩ (.bool (xs.getD k false))).ownsRow w.heap.size 4 1 (.slice (some ⟨w.heap.size, 0, none⟩) m m) m (ys'.map Value.bool) ∧ Below w.heap.size w (wr.setCell ⟨w.heap.size, k, none⟩ (.bool (xs.getD k false))) := by
  have hst := hown.stored k (.bool (xs.getD k false))
  have hb2 := hb.setCell (p := ⟨w.heap.size, k, none⟩) (Nat.le_refl _) (.bool (xs.getD k false))
  refine ⟨k + 1, ys.set k (xs.getD k false), by omega, by simp, by simpa using hl, ?_, by rw [List.map_set]; exact hst.1, hb2⟩
  intro j hj
  by_cases e : j = k
  · subst e
    simp [List.getD, hl, hlt]
  · rw [← HX j (by omega)]
    simp [List.getD, Ne.symm e]
theorem list_sameB {xs ys : List Bool} {m : Nat} (h1 : xs.length = m) (h2 : ys.length = m) (h : ∀ j, j < m → ys.getD j false = xs.getD j false) : ys = xs := by
  apply List.ext_getElem?
  intro j
  by_cases hj : j < m
  · have h := h j hj
    simp only [List.getD, List.getElem?_eq_getElem (show j < ys.length by omega), List.getElem?_eq_getElem (show j < xs.length by omega), Option.getD_some] at h
    rw [List.getElem?_eq_getElem (show j < ys.length by omega), List.getElem?_eq_getElem (show j < xs.length by omega), h]
  · rw [List.getElem?_eq_none (by omega), List.getElem?_eq_none (by omega)]

theorem own_formB {w : World} {base n : Nat} {v : Value} {xs : List Bool} (h : w.ownsRow base 4 1 v n (xs.map Value.bool)) : ∃ a cap, v = .slice a n cap ∧ SlB w a xs ∧ xs.length = n := by
  have hl := h.1
  simp at hl
  rcases h.2 with ⟨hv, h0⟩ | ⟨g, cap, cur, hv, _⟩
  · subst h0
    exact ⟨none, 0, hv, fun i hi => by omega, hl⟩
  · subst hv
    exact ⟨_, cap, rfl, sl_of_ownB h, hl⟩
set_option maxRecDepth 100000 in
set_option maxHeartbeats 1000000 in
theorem eqBoolS_same (a b : Option Addr) (xs : List Bool) (n c1 c2 : Nat) (w : World) (hn : xs.length = n) (ha : SlB w a xs) (hb : SlB w b xs) (hn2 : n ≤ 1048576) :
    Calls Try.prog 30 #[.slice a n c1, .slice b n c2] w fun e w' => e = .returned (.bool true) ∧ Below w.heap.size w w' := by
  have HA := hide ha
  have HB := hide hb
  have HN := hide hn
  clear ha hb hn
  go_enter Try.func30, Try.ntmps30
  go_wp2
  go_loopw [5] (fun i wr => ∃ k : Nat, k ≤ n ∧ i = .int .i64 k ∧ Below w.heap.size w wr) (fun i _ => n - (intOf i).toNat)
  case atStart => exact ⟨0, Nat.zero_le _, rfl, Below.refl _ _⟩
  case round =>
    obtain ⟨k, hk, rfl, hbel⟩ := hrel
    by_cases hlt : k < n
    · obtain ⟨b1, o1, rfl, h1⟩ := HA.out k (by rw [HN.out]; exact hlt)
      obtain ⟨b2, o2, rfl, h2⟩ := HB.out k (by rw [HN.out]; exact hlt)
      have g1 : wr.cell? ⟨b1, o1 + k, none⟩ = some (.bool (xs.getD k false)) := by
        rw [hbel.cell (p := ⟨b1, o1 + k, none⟩) (blk_lt h1)]
        exact h1
      have g2 : wr.cell? ⟨b2, o2 + k, none⟩ = some (.bool (xs.getD k false)) := by
        rw [hbel.cell (p := ⟨b2, o2 + k, none⟩) (blk_lt h2)]
        exact h2
      obtain ⟨x, hx⟩ : ∃ x, x = xs.getD k false := ⟨_, rfl⟩
      rw [← hx] at g1 g2
      have hltI : (k : Int) < (n : Int) := by omega
      clear h1 h2 hx
      go_wp2
      go_quiet (fail)
      go_wp2
      go_roundw
      case rel => exact ⟨k + 1, by omega, by go_num, below_drewN hbel _⟩
      case measure => simp [intOf]; omega
    · have hltI : ¬ (k : Int) < (n : Int) := by omega
      go_wp2
      go_ret
      exact ⟨rfl, hbel⟩
set_option maxRecDepth 100000 in
set_option maxHeartbeats 1000000 in
theorem toBoolS_any (a : Option Addr) (xs : List Bool) (n cap : Nat) (w : World) (hn : xs.length = n) (hs : SlB w a xs) (hn2 : n ≤ 1048576) :
    Calls Try.prog 58 #[.slice a n cap] w fun e w' => e = .returned (.slice (some ⟨w.heap.size, 0, none⟩) n n) ∧
      w'.ownsRow w.heap.size 4 1 (.slice (some ⟨w.heap.size, 0, none⟩) n n) n (xs.map Value.bool) ∧ Below w.heap.size w w' := by
  obtain ⟨i0, hi, hz0, hz1, hz2⟩ := info_parts info_bool
  obtain ⟨w1, hmk, hown1, hg1⟩ := run_make_full (P := Try.prog) w w.heap.size 29 4 i0 (.bool false) 1 Try.underlying29 hi hz0 hz1 .i64 .i64 n (by rw [hz2]; omega) (by unfold maxLen; omega) (Nat.le_refl _)
  rw [made_bools] at hown1
  have hb1 : Below w.heap.size w w1 := (Below.refl _ _).grown hg1 (Nat.le_refl _) (fun k hk => by cases hk)
  have HO := hide hown1
  have HS := hide hs
  have HN := hide hn
  clear hown1 hg1 hs hn
  go_enter Try.func58, Try.ntmps58
  go_wp2
  go_loopw [4] (fun i wr => ∃ (k : Nat) (ys : List Bool), k ≤ n ∧ i = .int .i64 k ∧ ys.length = n ∧ Hid (∀ j, j < k → ys.getD j false = xs.getD j false) ∧
      wr.ownsRow w.heap.size 4 1 (.slice (some ⟨w.heap.size, 0, none⟩) n n) n (ys.map Value.bool) ∧ Below w.heap.size w wr) (fun i _ => n - (intOf i).toNat)
  case atStart => exact ⟨0, List.replicate n false, Nat.zero_le _, rfl, by simp, fun j hj => absurd hj (Nat.not_lt_zero _), HO, hb1⟩
  case round =>
    obtain ⟨k, ys, hk, rfl, hyl, HX, hown, hbel⟩ := hrel
    have HL := hide hyl
    clear hyl
    by_cases hlt : k < n
    · obtain ⟨b, off, rfl, hc0⟩ := HS.out k (by rw [HN.out]; exact hlt)
      have hc : wr.cell? ⟨b, off + k, none⟩ = some (.bool (xs.getD k false)) := by
        rw [hbel.cell (p := ⟨b, off + k, none⟩) (blk_lt hc0)]
        exact hc0
      clear hc0
      have hcl := hown.cellAt k (by omega)
      have hfr := hown.frozenAt k
      have hltI : (k : Int) < (n : Int) := by omega
      obtain ⟨v, hv⟩ : ∃ v, wr.cell? ⟨w.heap.size, k, none⟩ = some v := ⟨_, hcl.trans (List.getElem?_eq_getElem (by have := HL.out; simp; omega))⟩
      have R := copy_roundB hlt HN.out HL.out HX.out hown hbel
      obtain ⟨x, hx⟩ : ∃ x, x = xs.getD k false := ⟨_, rfl⟩
      rw [← hx] at hc R
      have HR := hide R
      clear hcl hx R
      go_wp2
      go_roundw
      case rel => exact HR.out
      case measure => simp [intOf]; omega
    · have e : ys = xs := list_sameB HN.out HL.out (fun j hj => HX.out j (by omega))
      subst e
      have hltI : ¬ (k : Int) < (n : Int) := by omega
      go_wp2
      go_ret
      exact ⟨rfl, hown, hbel⟩

set_option maxRecDepth 100000 in
set_option maxHeartbeats 400000 in
theorem szBoolS_any (a : Option Addr) (n cap : Nat) (L : Int) (w : World) (hm : n ≤ 9223372036854775807) (h0 : 0 ≤ L) (h1 : L ≤ 1048576) (r : Int) (hr : r = if (n : Int) ≤ L then L - (n : Int) else -1) :
    Calls Try.prog 52 #[.slice a n cap, .int .i64 L] w fun e w' => e = .returned (.int .i64 r) ∧ w = w' := by
  have HR := hide hr
  clear hr
  by_cases ha : L - (n : Int) < 0
  · go_enter Try.func52, Try.ntmps52
    go_wp2
    go_ret
    exact ⟨by rw [HR.out, if_neg (by omega)]; rfl, rfl⟩
  · go_enter Try.func52, Try.ntmps52
    go_wp2
    go_ret
    exact ⟨by rw [HR.out, if_pos (by omega)]; rfl, rfl⟩
set_option maxRecDepth 100000 in
set_option maxHeartbeats 400000 in
theorem szIntS_any (a : Option Addr) (n cap : Nat) (L : Int) (w : World) (hm : n ≤ 9223372036854775807) (h0 : 0 ≤ L) (h1 : L ≤ 1048576) (r : Int) (hr : r = if (n : Int) ≤ L then L - (n : Int) else -1) :
    Calls Try.prog 53 #[.slice a n cap, .int .i64 L] w fun e w' => e = .returned (.int .i64 r) ∧ w = w' := by
  have HR := hide hr
  clear hr
  by_cases ha : L - (n : Int) < 0
  · go_enter Try.func53, Try.ntmps53
    go_wp2
    go_ret
    exact ⟨by rw [HR.out, if_neg (by omega)]; rfl, rfl⟩
  · go_enter Try.func53, Try.ntmps53
    go_wp2
    go_ret
    exact ⟨by rw [HR.out, if_pos (by omega)]; rfl, rfl⟩
end Go.Proofs.Ytbcljhafdpnjbbd.L9
