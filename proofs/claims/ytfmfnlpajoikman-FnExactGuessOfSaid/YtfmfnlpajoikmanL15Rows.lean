/-
  Contract: impl.rowsOf: a sketch's rows, each with the function that tells a name's place in it, in new memory.
-/
import Derived.Test.YtfmfnlpajoikmanL15App
import Derived.Test.YtfmfnlpajoikmanL15Place
import Derived.Deep.DeepCutAuto
namespace Go.Proofs.Ytfmfnlpajoikman.L15
open Go.RowKit L1 Own Sli
set_option linter.unusedVariables false

theorem info_skr : (Try.prog.info? 66).map (fun i => (i.zero, i.size, i.bytes)) = some (some (.agg #[.slice none 0 0, .nilFunc]), 2, 32) := by kernel_rfl
/-- The function of a row. -/
abbrev fnV (r : Int) : Value := .func (.func 46) #[.agg #[.int .i64 (3 + r), .int .i64 (29 + 2 * r)]] #[]
/-- The cells of the rows with their functions. -/
def skCells (vals : Nat → Value) : Nat → List Value
  | 0 => []
  | k + 1 => skCells vals k ++ [vals k, fnV (k : Int)]
theorem skCells_len (vals : Nat → Value) : ∀ k, (skCells vals k).length = k * 2
  | 0 => rfl
  | k + 1 => by simp [skCells, skCells_len vals k, Nat.succ_mul]
theorem skCells_get (vals : Nat → Value) : ∀ n i, i < n → (skCells vals n)[i * 2]? = some (vals i) ∧ (skCells vals n)[i * 2 + 1]? = some (fnV (i : Int))
  | 0, i, h => absurd h (Nat.not_lt_zero _)
  | n + 1, i, h => by
    have hl := skCells_len vals n
    by_cases e : i = n
    · subst e
      simp only [skCells]
      rw [List.getElem?_append_right (by omega), List.getElem?_append_right (by omega), hl]
      simp
    · obtain ⟨h1, h2⟩ := skCells_get vals n i (by omega)
      simp only [skCells]
      rw [List.getElem?_append_left (by omega), List.getElem?_append_left (by omega)]
      exact ⟨h1, h2⟩
theorem cell_two_new15 (w : World) (a b : Value) (t : TypeId) : ∀ j u, [a, b][j]? = some u → (w.alloc (.cells #[a, b] t)).cell? ((⟨w.heap.size, 0, none⟩ : Addr).add j) = some u := by
  intro j u hj
  rw [add_atI]
  match j, hj with
  | 0, hj => simp at hj; subst hj; simp
  | 1, hj => simp at hj; subst hj; simp
  | j + 2, hj => simp at hj
set_option maxRecDepth 100000 in
set_option maxHeartbeats 4000000 in
theorem rowsOf_any (b off n cap : Nat) (T : Int) (vals : Nat → Value) (w : World) (hn : n ≤ 3) (hc : ∀ i, i < n → w.cell? ⟨b, off + i, none⟩ = some (vals i)) (hv : ∀ i, i < n → ∃ a m c, vals i = .slice a m c) :
    Calls Try.prog 41 #[.agg #[.slice (some ⟨b, off, none⟩) n cap, .int .i64 T]] w fun e w' => ∃ v, e = .returned v ∧ w'.ownsRow w.heap.size 66 2 v n (skCells vals n) ∧ Below w.heap.size w w' := by
  obtain ⟨i1, hi1, hy0, hy1, hy2⟩ := info_parts info_skr
  have hmf : ∀ (fn : Fn) (first cap : Array Value) (w : World), (Instr.makeFunc fn first cap).run Try.prog w = .ok (.func fn first cap) w := fun _ _ _ _ => rfl
  have BX := (Below.refl w.heap.size w).alloc (Nat.le_refl _) (skO (.slice (some ⟨b, off, none⟩) n cap) T)
  have HC := hide hc
  have HV := hide hv
  have HB0 := hide BX
  have hlo := hide (show w.heap.size < (w.alloc (skO (.slice (some ⟨b, off, none⟩) n cap) T)).heap.size by simp)
  clear hc hv BX
  go_enter Try.func41, Try.ntmps41
  go_wp2
  go_loopw [3, 9] (fun o t wr => ∃ k : Nat, k ≤ n ∧ t = .int .i64 (k : Int) ∧ wr.ownsRow w.heap.size 66 2 o k (skCells vals k) ∧ Below w.heap.size w wr) (fun _ t _ => n - (intOf t).toNat)
  case atStart => exact ⟨0, Nat.zero_le _, rfl, World.ownsRow_nil _ _ _ _, HB0.out⟩
  case round =>
    obtain ⟨k, hk, rfl, hown, hbel⟩ := hrel
    have HO := hide hown
    have BW := hide hbel
    clear hown hbel
    by_cases hlt : k < n
    · have hltI : (k : Int) < (n : Int) := by omega
      have hcell := (BW.out.cell (p := ⟨b, off + k, none⟩) (blk_ltO (HC.out k hlt))).trans (HC.out k hlt)
      obtain ⟨av, mv, cv, hvk⟩ := HV.out k hlt
      rw [hvk] at hcell
      have HVK := hide hvk
      have CH := hide (fun wx => hashOfRow_any (k : Int) wx (by omega))
      clear hvk
      go_wp2_with fail
      refine (CH.out _).mono ?_
      rintro e w1 ⟨rfl, hb1⟩
      have O1 := hide (own_belO HO.out hb1)
      have B1 := hide (BW.out.trans (hb1.mono BW.out.size))
      have e2 : Below w1.heap.size w1 (w1.alloc (.cells #[.slice av mv cv, fnV (k : Int)] 66)) := (Below.refl _ _).alloc (Nat.le_refl _) _
      have C2 := hide (show ∀ j u, [.slice av mv cv, fnV (k : Int)][j]? = some u → (w1.alloc (.cells #[.slice av mv cv, fnV (k : Int)] 66)).cell? ((⟨w1.heap.size, 0, none⟩ : Addr).add j) = some u from cell_two_new15 _ _ _ _)
      have O2 := hide (own_belO O1.out e2)
      have B2 := hide (B1.out.trans (e2.mono B1.out.size))
      clear hb1 e2
      go_wp2_with (first
        | (at_builtin; refine wpList_append_own_at _ rfl _ _ 62 rfl w.heap.size 66 i1 (.agg #[.slice none 0 0, .nilFunc]) 2 32 Try.underlying62 hi1 hy0 hy1 hy2 rfl (by decide) _ k (skCells vals k) rfl O2.out ⟨w1.heap.size, 0, none⟩ 1 1 [.slice av mv cv, fnV (k : Int)] rfl rfl C2.out (by intro u hu; simp at hu; rcases hu with rfl | rfl <;> rfl) (by unfold maxLen; omega) (by omega) B2.out.size ?_)
        | go_in)
      intro v3 w3 hown3 hg3 _ _
      have O3 := hide (show w3.ownsRow w.heap.size 66 2 v3 (k + 1) (skCells vals (k + 1)) by
        have e : skCells vals (k + 1) = skCells vals k ++ [.slice av mv cv, fnV (k : Int)] := by simp only [skCells]; rw [HVK.out]
        rw [e]; exact hown3)
      have B3 := hide (B2.out.grown hg3 B2.out.size (fun g hg => (L8.own_lt O2.out g hg).1))
      clear hown3 hg3
      go_wp2
      go_roundw
      case rel => exact ⟨k + 1, by omega, by go_num, O3.out, B3.out⟩
      case measure => simp [intOf]; omega
    · obtain rfl : k = n := by omega
      have hltI : ¬ (k : Int) < (k : Int) := by omega
      go_wp2
      go_ret
      exact ⟨_, rfl, HO.out, BW.out⟩
end Go.Proofs.Ytfmfnlpajoikman.L15
