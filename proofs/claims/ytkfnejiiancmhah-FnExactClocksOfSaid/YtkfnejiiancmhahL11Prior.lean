/-
  Contract: spec.l11Prior, the last event ahead at an event's node.
-/
import Derived.Test.YtkfnejiiancmhahL11Good
import Derived.Test.YtkfnejiiancmhahIn
namespace Go.Proofs.Ytkfnejiiancmhah.L11
open Go.RowKit L1 Own
set_option linter.unusedVariables false

theorem below_drewP {N : Nat} {w w' : World} (h : Below N w w') : ∀ q, Below N w (w'.drewN q)
  | 0 => h
  | q + 1 => (below_drewP h q).drew
set_option maxRecDepth 100000 in
set_option maxHeartbeats 4000000 in
theorem prior_any (b off : Nat) (l : List (Int × Int)) (n cap k : Nat) (w : World) (hn : l.length = n) (hs : Sl2 w (some ⟨b, off, none⟩) l) (hk : k < n) (hn2 : n ≤ 1048576) (p : Int) (hp : p = pri l (nd l k) k) :
    Calls Try.prog 46 #[.slice (some ⟨b, off, none⟩) n cap, .int .i64 k] w fun e w' => e = .returned (.int .i64 p) ∧ Below w.heap.size w w' := by
  obtain ⟨hx, q1⟩ := hs.two k (by omega)
  clear q1
  have hkI : (k : Int) < (n : Int) := by omega
  have hk0 : (0 : Int) ≤ (k : Int) := by omega
  obtain ⟨x, hxe⟩ : ∃ x, x = nd l k := ⟨_, rfl⟩
  rw [← hxe] at hx hp
  have HP := hide hp
  have HS := hide hs
  have HN := hide hn
  have HX := hide hx
  clear hs hn hxe hp hx
  go_enter Try.func46, Try.ntmps46
  go_wp2
  go_loopw [5] (fun i wr => ∃ j : Nat, j ≤ k ∧ i = .int .i64 ((j : Int) - 1) ∧ Hid (p = pri l x j) ∧ Below w.heap.size w wr) (fun i _ => (intOf i + 1).toNat)
  case atStart => exact ⟨k, Nat.le_refl _, rfl, HP, Below.refl _ _⟩
  case round =>
    obtain ⟨j, hj, rfl, HJ, hbel⟩ := hrel
    match j, hj, HJ with
    | 0, hj, HJ =>
      have e : Hid (p = -1) := HJ.out
      have h00 : ((0 : Nat) : Int) - 1 = -1 := by omega
      rw [h00]
      clear h00
      go_wp2
      go_ret
      exact ⟨by rw [e.out]; rfl, hbel⟩
    | q + 1, hj, HJ =>
      have h00 : ((q + 1 : Nat) : Int) - 1 = (q : Int) := by omega
      rw [h00]
      clear h00
      obtain ⟨hz, q1⟩ := HS.out.two q (by rw [HN.out]; omega)
      clear q1
      have hz2 := (hbel.cell (p := ⟨b, off + q * 2, none⟩) (blk_lt hz)).trans hz
      have hx2 := (hbel.cell (p := ⟨b, off + k * 2, none⟩) (blk_lt HX.out)).trans HX.out
      have hu : pri l x (q + 1) = if nd l q = x then (q : Int) else pri l x q := rfl
      obtain ⟨z, hze⟩ : ∃ z, z = nd l q := ⟨_, rfl⟩
      rw [← hze] at hz2 hu
      have hqI : (q : Int) < (n : Int) := by omega
      have hq0 : (0 : Int) ≤ (q : Int) := by omega
      have HU := hide hu
      clear hz hze hu
      by_cases hzx : z = x
      · have e : Hid (p = (q : Int)) := by rw [HJ.out, HU.out, if_pos hzx]; rfl
        clear HU HJ
        subst hzx
        go_wp2
        go_quiet (fail)
        go_wp2
        go_ret
        exact ⟨by rw [e.out]; rfl, below_drewP hbel _⟩
      · have e : Hid (p = pri l x q) := by rw [HJ.out, HU.out, if_neg hzx]; rfl
        have hzb : (z == x) = false := by simp [hzx]
        clear HU HJ
        go_wp2
        go_quiet (fail)
        go_wp2
        go_roundw
        case rel => exact ⟨q, by omega, by go_num, e, below_drewP hbel _⟩
        case measure => simp [intOf] <;> omega
end Go.Proofs.Ytkfnejiiancmhah.L11
