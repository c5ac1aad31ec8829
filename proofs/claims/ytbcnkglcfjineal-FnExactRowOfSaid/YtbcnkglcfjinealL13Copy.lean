/-
  Contract: impl.copySamples.
-/
import Derived.Test.YtbcnkglcfjinealL13App
namespace Go.Proofs.Ytbcnkglcfjineal.L13
open Go.RowKit L1
set_option linter.unusedVariables false

set_option maxRecDepth 100000 in
set_option maxHeartbeats 1000000 in
theorem copySamples_any (a : Option Addr) (l : List (Int × Int)) (n c : Nat) (w : World) (hn : l.length = n) (hn2 : n ≤ 1048576) (hs : Sl2 w a l) :
    Calls Try.prog 22 #[.slice a n c] w fun e w' => ∃ a' c', e = .returned (.slice a' n c') ∧ w'.ownsRow w.heap.size 51 2 (.slice a' n c') n (flat l) ∧ Below w.heap.size w w' := by
  have HS := hide hs
  have HN := hide hn
  clear hs hn
  go_enter Try.func22, Try.ntmps22
  go_wp2_with (first
    | (at_builtin; refine wpList_append_copyS rfl _ _ rfl w.heap.size none a 0 n c l HN.out hn2 rfl (World.ownsRow_nil _ _ _ _) rfl HS.out (Nat.le_refl _) ?_)
    | go_in)
  intro a' c' w1 h1 g1 _
  have B := hide ((Below.refl w.heap.size w).grown g1 (Nat.le_refl _) (fun q hq => by simp [Value.ownBlock] at hq))
  have O := hide h1
  clear h1 g1
  go_wp2
  go_ret
  exact ⟨a', c', rfl, O.out, B.out⟩
end Go.Proofs.Ytbcnkglcfjineal.L13
