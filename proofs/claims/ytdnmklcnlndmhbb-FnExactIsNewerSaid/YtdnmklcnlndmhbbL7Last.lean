/-
  Contract: impl.lastEpoch.
-/
import Derived.Test.YtdnmklcnlndmhbbL7MatMath
namespace Go.Proofs.Ytdnmklcnlndmhbb.L7
open Go.RowKit L1
set_option linter.unusedVariables false

set_option maxRecDepth 100000 in
set_option maxHeartbeats 2000000 in
theorem lastEpoch_any (a : Option Addr) (l : List En) (n cap : Nat) (w : World) (hn : l.length = n) (hs : SlE w a l) (hn2 : n ≤ 1048576) (x : Int) (hx : lastE l = x) :
    Calls Try.prog 50 #[.slice a n cap] w fun e w' => e = .returned (.int .i64 x) ∧ w = w' := by
  cases n with
  | zero =>
    have e : x = 0 := by rw [← hx]; unfold lastE; rw [if_pos hn]
    subst e
    clear hx hs hn
    go_enter Try.func50, Try.ntmps50
    go_wp2
    go_ret
    exact ⟨rfl, rfl⟩
  | succ j =>
    obtain ⟨b, off, rfl, hc, _⟩ := hs j (by omega)
    have e : x = (l.getD j eE).1 := by rw [← hx]; unfold lastE; rw [if_neg (by omega), hn, Nat.add_sub_cancel]
    rw [← e] at hc
    have hjI : (j : Int) < (j : Int) + 1 := by omega
    have hj0 : (0 : Int) ≤ (j : Int) := by omega
    have hwj : IntKind.i64.wrap (j : Int) = (j : Int) := by
      simp only [IntKind.wrap, IntKind.bits, IntKind.signed]
      simp
      omega
    have hjn : ((j : Int) + 1 == 0) = false := by simp; omega
    clear hx hs hn e
    go_enter Try.func50, Try.ntmps50
    go_wp2
    go_ret
    exact ⟨rfl, rfl⟩
end Go.Proofs.Ytdnmklcnlndmhbb.L7
