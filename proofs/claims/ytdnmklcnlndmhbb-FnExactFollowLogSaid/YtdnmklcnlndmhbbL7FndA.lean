/-
  Contract: impl.endOfStart.
-/
import Derived.Test.YtdnmklcnlndmhbbL7FndA0
namespace Go.Proofs.Ytdnmklcnlndmhbb.L7
open Go.RowKit L1
set_option linter.unusedVariables false

set_option maxRecDepth 100000 in
set_option maxHeartbeats 4000000 in
theorem endOfStart_any (b : Option Addr) (st : List (Int × Int)) (m cap k : Nat) (en : Int) (w : World) (hm : st.length = m) (ht : SlS w b st) (hm2 : m ≤ 1048576) (hk : k < m) (v : Int) (hv : nxt st k en = v) :
    Calls Try.prog 55 #[.slice b m cap, .int .i64 k, .int .i64 en] w fun e w' => e = .returned (.int .i64 v) ∧ w = w' := by
  by_cases h1 : (k : Int) + 1 < (m : Int)
  · obtain ⟨b1, o1, rfl, _, hd⟩ := ht (k + 1) (by omega)
    have e : v = (st.getD (k + 1) (0, 0)).2 := by rw [← hv]; unfold nxt; rw [if_pos (by omega)]
    rw [← e] at hd
    have hk0 : (0 : Int) ≤ (k : Int) + 1 := by omega
    clear hv e ht hm
    go_enter Try.func55, Try.ntmps55
    go_wp2
    go_ret
    exact ⟨rfl, rfl⟩
  · have e : v = en := by rw [← hv]; unfold nxt; rw [if_neg (by omega)]
    subst e
    clear hv ht hm
    go_enter Try.func55, Try.ntmps55
    go_wp2
    go_ret
    exact ⟨rfl, rfl⟩
end Go.Proofs.Ytdnmklcnlndmhbb.L7
