/-
  Contract: spec.l12Sum.
-/
import Derived.Test.YtfmfnlpajoikmaoL15HGM
import Derived.Deep.DeepCutAuto
namespace Go.Proofs.Ytfmfnlpajoikmao.L15H
open Go.RowKit L1 Own Str
set_option linter.unusedVariables false

def SmL (l : List Int) : Prop := l.length ≤ 50 ∧ ∀ j, j < l.length → 0 ≤ l.getD j 0 ∧ l.getD j 0 ≤ 100000
theorem below_drewH {N : Nat} {w w' : World} (h : Below N w w') : ∀ q, Below N w (w'.drewN q)
  | 0 => h
  | q + 1 => (below_drewH h q).drew
theorem calls_symmH {P : Program} {f : FuncId} {args : Array Value} {w : World} {v : Value} (h : Calls P f args w fun e w' => e = .returned v ∧ w = w') : Calls P f args w fun e w' => e = .returned v ∧ w' = w := h.mono fun _ _ ⟨a, b⟩ => ⟨a, b.symm⟩
set_option maxRecDepth 100000 in
set_option maxHeartbeats 4000000 in
theorem l12Sum_h (a : Option Addr) (l : List Int) (n cap : Nat) (w : World) (hn : l.length = n) (hs : Sl w a l) (hl : SmL l) (r : Int) (hr : r = sm l n) :
    Calls Try.prog 43 #[.slice a n cap] w fun e w' => e = .returned (.int .i64 r) ∧ w = w' := by
  have HS := hide hs
  have HN := hide hn
  have HR := hide hr
  have HL := hide hl
  have n50 : n ≤ 50 := by have := hl.1; omega
  clear hs hn hr hl
  go_enter Try.func43, Try.ntmps43
  go_wp2
  go_loop [3, 8] (fun s t => ∃ k : Nat, k ≤ n ∧ t = .int .i64 k ∧ s = .int .i64 (sm l k)) (fun _ t => n - (intOf t).toNat)
  case atStart => exact ⟨0, Nat.zero_le _, rfl, rfl⟩
  case round =>
    obtain ⟨k, hk, rfl, rfl⟩ := hrel
    by_cases hlt : k < n
    · obtain ⟨b, off, rfl, hc⟩ := HS.out k (by rw [HN.out]; exact hlt)
      have hltI : (k : Int) < (n : Int) := by omega
      have h1 := sm_bd k (fun j hj => HL.out.2 j (by rw [HN.out]; omega))
      have h2 := HL.out.2 k (by rw [HN.out]; exact hlt)
      have hs : sm l (k + 1) = sm l k + l.getD k 0 := rfl
      obtain ⟨x, hx⟩ : ∃ x, x = l.getD k 0 := ⟨_, rfl⟩
      obtain ⟨y, hy⟩ : ∃ y, y = sm l k := ⟨_, rfl⟩
      rw [← hx] at hc h2 hs
      rw [← hy] at h1 hs ⊢
      have HSS := hide hs
      clear hx hy hs
      go_wp2
      go_round
      case rel => exact ⟨k + 1, by omega, by go_num, by rw [HSS.out]⟩
      case measure => simp [intOf]; omega
    · obtain rfl : k = n := by omega
      have hltI : ¬ (k : Int) < (k : Int) := by omega
      obtain ⟨y, hy⟩ : ∃ y, y = sm l k := ⟨_, rfl⟩
      rw [← hy] at HR ⊢
      clear hy
      go_wp2
      go_ret
      exact ⟨by rw [HR.out]; rfl, rfl⟩
end Go.Proofs.Ytfmfnlpajoikmao.L15H
